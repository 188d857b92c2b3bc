import Derived.Test.YtolblldpdgfkmaaDoorGri
namespace Go.Proofs.YtolblldpdgfkmaaDoor
open Go.RowKit
set_option maxRecDepth 100000
/-- how long a shard is -/
def sz (L : List ByteArray) (j : Nat) : Nat := (L.getD j ByteArray.empty).size
/-- the numbers of those that are there, below k -/
def thr (L : List ByteArray) (k : Nat) : List Nat := (List.range k).filter (fun j => decide (sz L j ≠ 0))
theorem thr_succ (L : List ByteArray) (k : Nat) : thr L (k + 1) = if sz L k ≠ 0 then thr L k ++ [k] else thr L k := by
  unfold thr
  rw [List.range_succ, List.filter_append]
  by_cases h : sz L k ≠ 0
  · rw [if_pos h, List.filter_cons_of_pos (by simpa using h)]
    rfl
  · rw [if_neg h, List.filter_cons_of_neg (by simpa using h)]
    simp
theorem thr_len (L : List ByteArray) (k : Nat) : (thr L k).length ≤ k := by
  have := List.length_filter_le (fun j => decide (sz L j ≠ 0)) (List.range k)
  rw [List.length_range] at this
  exact this
/-- all that are there have one length -/
def frm (L : List ByteArray) (N : Nat) : Prop := ∃ ln, ln ≤ 60004 ∧ ∀ j, j < N → sz L j ≠ 0 → sz L j = ln
def nV (l : List Nat) : List Value := l.map (fun (j : Nat) => Value.int .i64 (j : Int))
structure FrI (L : List ByteArray) (w : World) (k ln : Nat) (u : Value) (wr : World) : Prop where
  row : wr.ownsRow w.heap.size 3 1 u (thr L k).length (nV (thr L k))
  bel : Below w.heap.size w wr
  le : ln ≤ 60004
  eq : ∀ j, j < k → sz L j ≠ 0 → sz L j = ln
  no : ln = 0 → ∀ j, j < k → sz L j = 0
  yes : ln ≠ 0 → ∃ j, j < k ∧ sz L j = ln
def FirQ (L : List ByteArray) (N n : Nat) (w : World) (e : Ending) (w' : World) : Prop := Below w.heap.size w w' ∧ (¬ frm L N → e = .returned (.tuple #[.slice none 0 0, .int .i64 181])) ∧ (frm L N → (thr L N).length < n → e = .returned (.tuple #[.slice none 0 0, .int .i64 182])) ∧ (frm L N → n ≤ (thr L N).length → ∃ p c, e = .returned (.tuple #[.slice p n c, .int .i64 0]) ∧ GLs w' w'.heap.size p (((thr L N).take n).map (fun (j : Nat) => (j : Int))))
theorem rfirst_bad (w : World) (N c : Nat) (p : Option Addr) (n m : Int) (h : cntB n m = false ∨ (N : Int) ≠ n + m) (hn : -100 ≤ n + m ∧ n + m ≤ 100 ∨ cntB n m = false) : Calls Tryd.prog 37 #[.slice p N c, .int .i64 n, .int .i64 m] w fun e w' => e = .returned (.tuple #[.slice none 0 0, .int .i64 180]) ∧ w' = w := by
  have HC := hide (fun W => rcount_any n m W)
  cases hc : cntB n m with
  | false =>
    rw [hc] at HC
    clear h hn
    go_enter Tryd.func37, Tryd.ntmps37
    go_wp2_with fail
    refine (unhide HC _).mono ?_
    rintro e w' ⟨rfl, hw'⟩
    subst w'
    go_wp2
    go_ret2
    exact ⟨rfl, rfl⟩
  | true =>
    rw [hc] at HC h hn
    have h1 : (N : Int) ≠ n + m := by
      rcases h with q | q
      · cases q
      · exact q
    have h2 : -100 ≤ n + m ∧ n + m ≤ 100 := by
      rcases hn with q | q
      · exact q
      · cases q
    have hw : wrap64 (n + m) = n + m := wrap64_eq _ (by omega) (by omega)
    have hne : ((N : Int) != n + m) = true := by simp [h1]
    clear h hn
    go_enter Tryd.func37, Tryd.ntmps37
    go_wp2_with fail
    refine (unhide HC _).mono ?_
    rintro e w' ⟨rfl, hw'⟩
    subst w'
    go_wp2
    go_ret2
    exact ⟨rfl, rfl⟩
set_option maxHeartbeats 8000000 in
theorem rfirst_any (w : World) (L : List ByteArray) (N n m B c : Nat) (p : Option Addr) (hN : L.length = N) (hNm : N = n + m) (hn1 : 1 ≤ n) (hn2 : n ≤ 16) (hm : m ≤ 8) (hL : GTx w B p L) (hB : B ≤ w.heap.size) (hsb : ∀ j, sz L j ≤ 9223372036854775807) : Calls Tryd.prog 37 #[.slice p N c, .int .i64 (n : Int), .int .i64 (m : Int)] w (FirQ L N n w) := by
  have HC := hide (fun W => rcount_any (n : Int) (m : Int) W)
  rw [show cntB (n : Int) (m : Int) = true from decide_eq_true ⟨by omega, by omega, by omega, by omega⟩] at HC
  have hNN : (N : Int) = (n : Int) + (m : Int) := by omega
  have hne : ((N : Int) != (n : Int) + (m : Int)) = false := by rw [hNN]; simp
  have HL := hide (And.intro hN (And.intro hL (And.intro hB hsb)))
  obtain ⟨i0, hi, hz0, hz1, hz2⟩ := info_parts gr_int
  have HI := hide (And.intro hi (And.intro hz0 (And.intro hz1 hz2)))
  clear hi hz0 hz1 hz2 hN hL hB hsb
  have hN24 : N ≤ 24 := by omega
  clear hNN hNm
  go_enter Tryd.func37, Tryd.ntmps37
  go_wp2_with fail
  refine (unhide HC _).mono ?_
  rintro e w' ⟨rfl, hw'⟩
  subst w'
  clear HC
  go_wp2
  go_loopw [9, 10, 11] (fun x u i wr => ∃ k ln : Nat, k ≤ N ∧ i = .int .i64 (k : Int) ∧ x = .int .i64 (ln : Int) ∧ FrI L w k ln u wr) (fun _ _ i _ => N - (intOf i).toNat)
  case atStart => exact ⟨0, 0, by omega, rfl, rfl, ⟨World.ownsRow_nil _ _ _ _, Below.refl _ _, by omega, fun j hj => absurd hj (by omega), fun _ j hj => absurd hj (by omega), fun h => absurd rfl h⟩⟩
  case round =>
  obtain ⟨k, ln, hk, rfl, rfl, hF⟩ := hrel
  obtain ⟨wi, rfl⟩ : ∃ q, q = wr := ⟨_, rfl⟩
  obtain ⟨pw, cw, rfl, hcw⟩ := gr_form hF.row
  by_cases hkn : k < N
  case neg =>
    obtain rfl : k = N := by omega
    have hkn' : ¬ (k : Int) < (k : Int) := by omega
    have HFR := hide (show frm L k from ⟨ln, hF.le, hF.eq⟩)
    obtain ⟨tl, htl⟩ : ∃ q, (thr L k).length = q := ⟨_, rfl⟩
    have HF := hide hF
    have HTL := hide htl
    rw [htl] at hcw ⊢
    clear hF htl
    by_cases hfew : tl < n
    · have hfew' : (tl : Int) < (n : Int) := by omega
      have HE := hide (show FirQ L k n w (.returned (.tuple #[.slice none 0 0, .int .i64 182])) wi from ⟨(unhide HF).bel, fun q => absurd (unhide HFR) q, fun _ _ => rfl, fun _ q => absurd q (by rw [unhide HTL]; omega)⟩)
      go_wp2
      go_ret2
      exact unhide HE
    · have hfew' : ¬ (tl : Int) < (n : Int) := by omega
      have hnc : (n : Int) ≤ (cw : Int) := by omega
      have hr := (unhide HF).row
      rw [unhide HTL] at hr
      obtain ⟨gl, rfl, _, _, _, _⟩ := gr_cell hr 0 (by omega)
      have HE := hide (show FirQ L k n w (.returned (.tuple #[.slice (some ⟨gl, 0, none⟩) n cw, .int .i64 0])) wi from ⟨(unhide HF).bel, fun q => absurd (unhide HFR) q, fun _ q => absurd q (by rw [unhide HTL]; omega), fun _ _ => ⟨_, _, rfl, fun j hj => by
        rw [List.length_map, List.length_take, unhide HTL] at hj
        obtain ⟨g, e, h1, _, _, h4⟩ := gr_cell hr j (by omega)
        refine ⟨g, 0, e, h4, ?_⟩
        rw [Nat.zero_add, h1]
        have hj2 : j < (thr L k).length := by rw [unhide HTL]; omega
        have hj3 : j < ((thr L k).take n).length := by rw [List.length_take, unhide HTL]; omega
        rw [List.getD_eq_getElem?_getD, List.getElem?_map, List.getElem?_eq_getElem hj3, List.getElem_take]
        unfold nV
        rw [List.getElem?_map, List.getElem?_eq_getElem hj2]
        rfl⟩⟩)
      clear hr
      go_wp2
      go_ret2
      exact unhide HE
  have hkn' : (k : Int) < (N : Int) := by omega
  have hb := hF.bel
  obtain ⟨g, o, rfl, hg, hc0⟩ := (unhide HL).2.1 k (by rw [(unhide HL).1]; exact hkn)
  have hck : wi.cell? ⟨g, o + k, none⟩ = some (.string (L.getD k ByteArray.empty)) := (hb.cell (p := ⟨g, o + k, none⟩) (Nat.lt_of_lt_of_le hg (unhide HL).2.2.1)).trans hc0
  have hsk : sz L k = (L.getD k ByteArray.empty).size := rfl
  have hsk2 := (unhide HL).2.2.2 k
  obtain ⟨S, hS⟩ : ∃ q, L.getD k ByteArray.empty = q := ⟨_, rfl⟩
  rw [hS] at hck hsk
  clear hc0 hS
  by_cases hz : S.size = 0
  case pos =>
    obtain rfl : S = ⟨#[]⟩ := by
      cases S with
      | mk a =>
        have h : a = #[] := Array.eq_empty_of_size_eq_zero hz
        rw [h]
    have HN := hide (show FrI L w (k + 1) ln (.slice pw (thr L k).length cw) wi from by
      have e : thr L (k + 1) = thr L k := by rw [thr_succ, if_neg (by rw [hsk, hz]; decide)]
      refine ⟨by rw [e]; exact hF.row, hF.bel, hF.le, fun j hj hs => ?_, fun h0 j hj => ?_, fun h0 => ?_⟩
      · by_cases q : j = k
        · rw [q, hsk, hz] at hs; exact absurd rfl hs
        · exact hF.eq j (by omega) hs
      · by_cases q : j = k
        · rw [q, hsk, hz]
        · exact hF.no h0 j (by omega)
      · obtain ⟨j, h1, h2⟩ := hF.yes h0
        exact ⟨j, by omega, h2⟩)
    generalize (thr L k).length = tl at *
    clear hF hcw hsk
    go_wp2
    go_roundw
    case rel => exact ⟨k + 1, ln, by omega, by go_num, rfl, unhide HN⟩
    case measure => simp [intOf]; omega
  have hem : (S.toList == (⟨#[]⟩ : ByteArray).toList) = false := str_ne (fun e => hz (by rw [e]; rfl))
  have hem2 : S.toList.isEmpty = false := by simpa using hem
  have e1 : thr L (k + 1) = thr L k ++ [k] := by rw [thr_succ, if_pos (by rw [hsk]; exact hz)]
  have htl2 := thr_len L k
  have HO := hide (show (wi.alloc (.cells #[.int .i64 (k : Int)] 3)).ownsRow w.heap.size 3 1 (.slice pw (thr L k).length cw) (thr L k).length (nV (thr L k)) from hF.row.alloc _)
  have HE1 := hide e1
  have HF := hide hF
  have hsw := hb.size
  obtain ⟨tl, htl⟩ : ∃ q, (thr L k).length = q := ⟨_, rfl⟩
  rw [htl] at HO htl2 ⊢
  have HTL := hide htl
  have hgw : g < wi.heap.size := Nat.lt_of_lt_of_le (Nat.lt_of_lt_of_le hg (unhide HL).2.2.1) hsw
  clear hF hcw e1 htl hb
  have HSK := hide hsk
  rw [hsk] at hsk2
  clear hsk
  go_wp2_with (refine wpList_append_lies _ rfl (.tmp 36) (.tmp 38) 40 rfl w.heap.size 3 i0 (.int .i64 0) 1 8 Tryd.underlying40 (unhide HI).1 (unhide HI).2.1 (unhide HI).2.2.1 (unhide HI).2.2.2 rfl (by decide) _ tl _ rfl (unhide HO) ⟨wi.heap.size, 0, none⟩ 1 1 [.int .i64 (k : Int)] rfl rfl (fun q u hu => gr_new wi 3 _ q u hu) (by simp [Value.oneCell']) (by decide) (by unfold maxLen; omega) (by omega) (by simp; omega) (wi.heap.size + 1) (by simp) ?_)
  intro g5 cap5 x5 ho5 hg5 _ _
  have HA := hide (show x5.ownsRow w.heap.size 3 1 (.slice (some ⟨g5, 0, none⟩) (tl + 1) cap5) (thr L (k + 1)).length (nV (thr L (k + 1))) ∧ Below w.heap.size w x5 from ⟨by
    rw [unhide HE1, List.length_append, unhide HTL]
    unfold nV
    rw [List.map_append, List.map_singleton]
    exact ho5, ((unhide HF).bel.alloc (unhide HF).bel.size _).grown hg5 (by simp; omega) (fun q hq => ((unhide HO).lt q hq).1)⟩)
  have hlen1 : (thr L (k + 1)).length = tl + 1 := by rw [unhide HE1, List.length_append, unhide HTL]; rfl
  have HL1 := hide hlen1
  have hck5 : x5.cell? ⟨g, o + k, none⟩ = some (.string S) := ((unhide HA).2.cell (p := ⟨g, o + k, none⟩) (Nat.lt_of_lt_of_le hg (unhide HL).2.2.1)).trans (((unhide HF).bel.cell (p := ⟨g, o + k, none⟩) (Nat.lt_of_lt_of_le hg (unhide HL).2.2.1)).symm.trans hck)
  clear ho5 hg5 HO hck hlen1
  have HSZ := hide (show sz L k ≠ 0 from by rw [unhide HSK]; exact hz)
  by_cases hl0 : ln = 0
  case pos =>
    subst hl0
    by_cases hbig : 60004 < S.size
    case pos =>
      have hbig' : (60004 : Int) < (S.size : Int) := by omega
      have HE := hide (show FirQ L N n w (.returned (.tuple #[.slice none 0 0, .int .i64 181])) x5 from by
        have hnf : ¬ frm L N := fun ⟨l, h1, h2⟩ => by
          have := h2 k hkn (unhide HSZ)
          rw [unhide HSK] at this
          omega
        exact ⟨(unhide HA).2, fun _ => rfl, fun q => absurd q hnf, fun q => absurd q hnf⟩)
      go_wp2
      go_ret2
      exact unhide HE
    have hbig' : ¬ (60004 : Int) < (S.size : Int) := by omega
    have HN := hide (show FrI L w (k + 1) S.size (.slice (some ⟨g5, 0, none⟩) (tl + 1) cap5) x5 from ⟨(unhide HA).1, (unhide HA).2, by omega, fun j hj hs => by
      by_cases q : j = k
      · rw [q]; exact unhide HSK
      · exact absurd ((unhide HF).no rfl j (by omega)) hs, fun h0 => absurd h0 hz, fun _ => ⟨k, by omega, unhide HSK⟩⟩)
    clear hbig
    go_wp2
    go_roundw
    case rel => exact ⟨k + 1, S.size, by omega, by go_num, rfl, unhide HN⟩
    case measure => simp [intOf]; omega
  have hl0' : ((ln : Int) == 0) = false := by simp; omega
  by_cases hsl : S.size = ln
  case neg =>
    have hsl' : ((S.size : Int) != (ln : Int)) = true := by simp; omega
    have HE := hide (show FirQ L N n w (.returned (.tuple #[.slice none 0 0, .int .i64 181])) x5 from by
      have hnf : ¬ frm L N := fun ⟨l, h1, h2⟩ => by
        have h3 := h2 k hkn (unhide HSZ)
        rw [unhide HSK] at h3
        obtain ⟨j, h4, h5⟩ := (unhide HF).yes hl0
        have h6 := h2 j (by omega) (by rw [h5]; exact hl0)
        rw [h5] at h6
        omega
      exact ⟨(unhide HA).2, fun _ => rfl, fun q => absurd q hnf, fun q => absurd q hnf⟩)
    go_wp2
    go_ret2
    exact unhide HE
  have hsl' : ((S.size : Int) != (ln : Int)) = false := by simp; omega
  have hle := (unhide HF).le
  have hbig' : ¬ (60004 : Int) < (ln : Int) := by omega
  have HN := hide (show FrI L w (k + 1) ln (.slice (some ⟨g5, 0, none⟩) (tl + 1) cap5) x5 from ⟨(unhide HA).1, (unhide HA).2, hle, fun j hj hs => by
    by_cases q : j = k
    · rw [q, unhide HSK]; exact hsl
    · exact (unhide HF).eq j (by omega) hs, fun h0 => absurd h0 hl0, fun _ => ⟨k, by omega, by rw [unhide HSK]; exact hsl⟩⟩)
  clear hsl
  go_wp2
  go_roundw
  case rel => exact ⟨k + 1, ln, by omega, by go_num, rfl, unhide HN⟩
  case measure => simp [intOf]; omega
end Go.Proofs.YtolblldpdgfkmaaDoor
