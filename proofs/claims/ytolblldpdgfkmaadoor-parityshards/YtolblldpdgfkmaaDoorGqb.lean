import Derived.Test.YtolblldpdgfkmaaDoorGqa
import Derived.Deep.RegionHeld
namespace Go.Proofs.YtolblldpdgfkmaaDoor
open Go.RowKit
set_option maxRecDepth 100000
theorem join_nil : ∀ xs : List (List UInt8), Lib.join xs [] = xs.flatten
  | [] => rfl
  | [x] => by simp [Lib.join, List.intercalate, List.intersperse]
  | x :: y :: r => by
    have ih := join_nil (y :: r)
    unfold Lib.join at ih ⊢
    simp only [List.intercalate, List.intersperse, List.flatten_cons, List.nil_append] at ih ⊢
    rw [ih]
/-- texts one behind the other -/
def catB (xs : List ByteArray) : ByteArray := ⟨(xs.map (·.data.toList)).flatten.toArray⟩
theorem catB_join (xs : List ByteArray) : (⟨(Lib.join (xs.map (·.data.toList)) (⟨#[]⟩ : ByteArray).data.toList).toArray⟩ : ByteArray) = catB xs := by
  unfold catB
  rw [show (⟨#[]⟩ : ByteArray).data.toList = [] from rfl, join_nil]
theorem catB_nums (xs : List ByteArray) : nums (catB xs) = (xs.map nums).flatten := by
  unfold catB nums
  simp [List.map_flatten]
  rfl
theorem catB_size (xs : List ByteArray) (len : Nat) (h : ∀ x ∈ xs, x.size = len) : (catB xs).size = xs.length * len := by
  rw [← nums_len, catB_nums]
  induction xs with
  | nil => simp
  | cons y xs ih =>
    rw [List.map_cons, List.flatten_cons, List.length_append, ih (fun x hx => h x (List.mem_cons_of_mem _ hx)), nums_len, h y (List.mem_cons_self ..), List.length_cons, Nat.add_mul]
    omega
theorem plast_any (w : World) (B n len cn cs : Nat) (pn ps : Option Addr) (f : Nat → Nat) (D : Nat → Nat → G) (hn1 : 1 ≤ n) (hn2 : n ≤ 16) (hM : FoM w B n len pn ps f D) (hB : B ≤ w.heap.size) : Calls Tryd.prog 24 #[.agg #[.slice pn n cn, .slice ps n cs]] w fun e w' => e = .returned (.int .i64 (f (n - 1) : Int)) ∧ Below w.heap.size w w' := by
  obtain ⟨g, o, rfl, hg, hc⟩ := hM.nums (n - 1) (by omega)
  obtain ⟨wb, hwb⟩ : ∃ q, w.alloc (.cells #[.slice (some ⟨g, o, none⟩) n cn, .slice ps n cs] 43) = q := ⟨_, rfl⟩
  have HW := hide (show Below w.heap.size w wb ∧ wb.cell? ⟨w.heap.size, 0, none⟩ = some (.slice (some ⟨g, o, none⟩) n cn) ∧ wb.cell? ⟨g, o + (n - 1), none⟩ = some (.int .i64 (f (n - 1) : Int)) from by
    subst hwb
    have hb : Below w.heap.size w (w.alloc (.cells #[.slice (some ⟨g, o, none⟩) n cn, .slice ps n cs] 43)) := (Below.refl _ _).alloc (Nat.le_refl _) _
    exact ⟨hb, (Blk.new w _ _).cell 0, (hb.cell (p := ⟨g, o + (n - 1), none⟩) (by show g < w.heap.size; omega)).trans hc⟩)
  have q0 := (unhide HW).2.1
  have q1 := (unhide HW).2.2
  obtain ⟨fv, hfv⟩ : ∃ q, f (n - 1) = q := ⟨_, rfl⟩
  rw [hfv] at q1 ⊢
  obtain ⟨m, rfl⟩ : ∃ m, n = m + 1 := ⟨n - 1, by omega⟩
  rw [Nat.add_sub_cancel] at q1
  have e1 : ((m + 1 : Nat) : Int) - 1 = (m : Int) := by omega
  have e2 : (m : Int) < ((m + 1 : Nat) : Int) := by omega
  have e3 : (m : Int) < (m : Int) + 1 := by omega
  have e4 : IntKind.i64.wrap (m : Int) = (m : Int) := wrapI_eq _ (by omega) (by omega)
  clear hM hc hfv
  go_enter Tryd.func24, Tryd.ntmps24
  go_wp2
  go_ret
  exact ⟨rfl, (unhide HW).1⟩
/-- the stream, as the first ones say -/
def strT (n len : Nat) (y : Nat → Nat → G) (L : List ByteArray) : ByteArray := catB ((List.range n).map (filT n len y L))
/-- what Join answers -/
def JoQ (L : List ByteArray) (N n : Nat) (w : World) (e : Ending) (w' : World) : Prop := Below w.heap.size w w' ∧ (¬ frm L N → e = .returned (.tuple #[.string ⟨#[]⟩, .int .i64 181])) ∧ (frm L N → (thr L N).length < n → e = .returned (.tuple #[.string ⟨#[]⟩, .int .i64 182])) ∧ (frm L N → n ≤ (thr L N).length → ∃ len y, len ≤ 60004 ∧ Fits L N n len y ∧ (txOk (strT n len y L) n → e = .returned (.tuple #[.string (txT (strT n len y L)), .int .i64 0])) ∧ (¬ txOk (strT n len y L) n → e = .returned (.tuple #[.string ⟨#[]⟩, .int .i64 181])))
/-- what Wrong answers -/
def WrQ (L : List ByteArray) (N n : Nat) (w : World) (e : Ending) (w' : World) : Prop := Below w.heap.size w w' ∧ (¬ frm L N → e = .returned (.tuple #[.bool false, .int .i64 181])) ∧ (frm L N → (thr L N).length < n → e = .returned (.tuple #[.bool false, .int .i64 182])) ∧ (frm L N → n ≤ (thr L N).length → ∃ len y b, len ≤ 60004 ∧ Fits L N n len y ∧ e = .returned (.tuple #[.bool b, .int .i64 0]) ∧ (b = true ↔ ∃ k, (thr L N).getD (n - 1) 0 < k ∧ k < N ∧ sz L k ≠ 0 ∧ L.getD k ByteArray.empty ≠ sayT n len k y))
theorem fil_size {L : List ByteArray} {N n len : Nat} {y : Nat → Nat → G} (hfr : ∀ j, j < N → sz L j ≠ 0 → sz L j = len) {j : Nat} (hj : j < N) : (filT n len y L j).size = len := by
  unfold filT
  by_cases h : sz L j = 0
  · rw [if_pos h]
    unfold sayT
    rw [strOfNums_size, gL_len]
  · rw [if_neg h]
    exact hfr j hj h
theorem filL_take (n len : Nat) (y : Nat → Nat → G) (L : List ByteArray) : filL n len y (L.take n) n = filL n len y L n := by
  unfold filL
  refine List.map_congr_left (fun j hj => ?_)
  have hj2 := List.mem_range.1 hj
  have e : (L.take n).getD j ByteArray.empty = L.getD j ByteArray.empty := by
    rw [List.getD_eq_getElem?_getD, List.getD_eq_getElem?_getD, List.getElem?_take, if_pos hj2]
  unfold filT sz
  rw [e]
/-- all that are there have the length of the first ones -/
theorem frm_len {L : List ByteArray} {N n len : Nat} {y : Nat → Nat → G} (hf : frm L N) (hn1 : 1 ≤ n) (ht : n ≤ (thr L N).length) (hfit : Fits L N n len y) : ∀ j, j < N → sz L j ≠ 0 → sz L j = len := by
  obtain ⟨ln, _, h2⟩ := hf
  have h0 := hfit.1 0 (by omega)
  have hm : (thr L N).getD 0 0 ∈ thr L N := by
    rw [List.getD_eq_getElem?_getD, List.getElem?_eq_getElem (by omega)]
    exact List.getElem_mem _
  have hb := thr_mem L N _ hm
  have := h2 _ hb.1 hb.2
  intro j hj hs
  rw [h2 j hj hs, ← this, h0]
set_option maxHeartbeats 8000000 in
theorem pjoin_any (w : World) (L : List ByteArray) (N n m B c : Nat) (p : Option Addr) (hN : L.length = N) (hNm : N = n + m) (hn1 : 1 ≤ n) (hn2 : n ≤ 16) (hm : m ≤ 8) (hL : GTx w B p L) (hB : B ≤ w.heap.size) (hsb : ∀ j, sz L j ≤ 9223372036854775807) (hNc : N ≤ c) : Calls Tryd.prog 6 #[.slice p N c, .int .i64 (n : Int), .int .i64 (m : Int)] w (JoQ L N n w) := by
  have HF := hide (pfirst_any w L N n m B c p hN hNm hn1 hn2 hm hL hB hsb)
  obtain ⟨g, o, rfl, hg0, _⟩ := hL 0 (by omega)
  have HL := hide (And.intro hN (And.intro hNm (And.intro hL hB)))
  have hnN : n ≤ N := by omega
  clear hN hNm hL hB hsb
  go_enter Tryd.func6, Tryd.ntmps6
  go_wp2_with fail
  refine (unhide HF).mono ?_
  rintro e w1 ⟨hb, h1, h2, h3⟩
  have HB := hide hb
  have hbs := hb.size
  clear hb HF
  by_cases hf : frm L N
  case neg =>
    obtain rfl := h1 hf
    have HE := hide (show ∀ W, Below w.heap.size w W → JoQ L N n w (.returned (.tuple #[.string ⟨#[]⟩, .int .i64 181])) W from fun W h => ⟨h, fun _ => rfl, fun q => absurd q hf, fun q => absurd q hf⟩)
    clear hf h1 h2 h3
    unfold aggE
    go_wp2
    go_ret2
    exact unhide HE _ ((unhide HB).alloc hbs _)
  by_cases ht : (thr L N).length < n
  · obtain rfl := h2 hf ht
    have HE := hide (show ∀ W, Below w.heap.size w W → JoQ L N n w (.returned (.tuple #[.string ⟨#[]⟩, .int .i64 182])) W from fun W h => ⟨h, fun q => absurd hf q, fun _ _ => rfl, fun _ q => by omega⟩)
    clear hf h1 h2 h3 ht
    unfold aggE
    go_wp2
    go_ret2
    exact unhide HE _ ((unhide HB).alloc hbs _)
  obtain ⟨pn, cn, ps, cs, len, rfl, hlen, hsz, hM⟩ := h3 hf (by omega)
  have hfst := thr_fst L N n m (unhide HL).2.1 hn1 hn2 hm (by omega)
  obtain ⟨y, hy⟩ := fits_ex hfst
  have hfit : Fits L N n len y := ⟨hsz, fun q _ r hr => hy q r hr⟩
  have hfl := frm_len hf hn1 (by omega) hfit
  obtain ⟨wb, hwb⟩ : ∃ q, w1.alloc (.cells #[.slice pn n cn, .slice ps n cs] 43) = q := ⟨_, rfl⟩
  have HW := hide (show Below w1.heap.size w1 wb ∧ w1.heap.size < wb.heap.size ∧ wb.cell? ⟨w1.heap.size, 0, none⟩ = some (.slice pn n cn) ∧ wb.cell? ⟨w1.heap.size, 1, none⟩ = some (.slice ps n cs) from by
    subst hwb
    have hB9 := Blk.new w1 43 #[.slice pn n cn, .slice ps n cs]
    exact ⟨(Below.refl _ _).alloc (Nat.le_refl _) _, by simp, hB9.cell 0, hB9.cell 1⟩)
  have hws := (unhide HW).2.1
  have HC := hide (fun (W : World) (h : Below wb.heap.size wb W) => show W.cell? ⟨w1.heap.size, 0, none⟩ = some (.slice pn n cn) ∧ W.cell? ⟨w1.heap.size, 1, none⟩ = some (.slice ps n cs) ∧ True from ⟨(h.cell (p := ⟨w1.heap.size, 0, none⟩) hws).trans (unhide HW).2.2.1, (h.cell (p := ⟨w1.heap.size, 1, none⟩) hws).trans (unhide HW).2.2.2, trivial⟩)
  have hLb : GTx wb w1.heap.size (some ⟨g, o, none⟩) (L.take n) := fun j hj => by
    rw [List.length_take] at hj
    obtain ⟨g', o', e, hg, hc⟩ := (unhide HL).2.2.1 j (by omega)
    have hgw : g' < w.heap.size := Nat.lt_of_lt_of_le hg (unhide HL).2.2.2
    refine ⟨g', o', e, by omega, ((unhide HW).1.cell (p := ⟨g', o' + j, none⟩) (by show g' < w1.heap.size; omega)).trans (((unhide HB).cell (p := ⟨g', o' + j, none⟩) hgw).trans ?_)⟩
    rw [hc, List.getD_eq_getElem?_getD, List.getD_eq_getElem?_getD, List.getElem?_take, if_pos (by omega)]
  have HFI := hide (fun (W : World) (h : Below wb.heap.size wb W) => pfill_any W (L.take n) n w1.heap.size n len cn cs c pn ps (some ⟨g, o, none⟩) (fun r => (thr L N).getD r 0) (fun r q => gB (L.getD ((thr L N).getD r 0) ByteArray.empty) q) y (by rw [List.length_take, (unhide HL).1]; omega) (by omega) hfst (by omega) (hM.below ((unhide HW).1.trans (h.mono (by omega)))) (hLb.below (h.mono (by omega))) (by have := h.size; omega) (fun q _ r hr => hy q r hr))
  have hfs : ∀ x ∈ (List.range n).map (filT n len y L), x.size = len := fun x hx => by
    obtain ⟨j, hj, rfl⟩ := List.mem_map.1 hx
    exact fil_size hfl (by have := List.mem_range.1 hj; omega)
  have hcs : (strT n len y L).size = n * len := by
    have h9 := catB_size _ len hfs
    rw [List.length_map, List.length_range] at h9
    exact h9
  have hcs2 : (strT n len y L).size ≤ 2000000 := by
    rw [hcs]
    have := Nat.mul_le_mul hn2 hlen
    omega
  have HSJ := hide (fun (W : World) (g5 c5 : Nat) (hc5 : n ≤ c5) (hg5 : g5 < W.heap.size) (ho : W.ownsRow wb.heap.size 9 1 (.slice (some ⟨g5, 0, none⟩) n c5) n (filL n len y (L.take n) n)) => show Calls Tryd.prog 19 #[.slice (some ⟨g5, 0, none⟩) n c5, .string ⟨#[]⟩] W fun e w' => e = .returned (.string (strT n len y L)) ∧ Below W.heap.size W w' from by
    have hl9 : ((List.range n).map (filT n len y L)).length = n := by simp
    rw [filL_take] at ho
    have h9 := Tryd.strings_Join g5 0 c5 ((List.range n).map (filT n len y L)) ⟨#[]⟩ W (fun j x hx => by
      obtain ⟨g6, e6, h6, _, _, _⟩ := gr_cell ho j (by rw [← hl9]; exact (List.getElem?_eq_some_iff.1 hx).1)
      injection e6 with e6
      injection e6 with e6
      subst e6
      rw [Nat.zero_add, h6]
      unfold filL
      rw [List.getElem?_map] at hx ⊢
      cases hq : (List.range n)[j]? with
      | none => rw [hq] at hx; cases hx
      | some z => rw [hq] at hx; simp at hx ⊢; exact hx) hg5 (by rw [hl9]; omega) (by rw [hl9]; exact hc5) (by
      have : ((Lib.join (((List.range n).map (filT n len y L)).map (·.data.toList)) (⟨#[]⟩ : ByteArray).data.toList)).length = (strT n len y L).size := by
        unfold strT
        rw [← catB_join]
        simp [ByteArray.size]
      rw [this]
      omega)
    rw [hl9, catB_join] at h9
    exact h9)
  have HTX := hide (fun W => ptext_any W (strT n len y L) n hn1 hn2 hcs2)
  have HE := hide (show ∀ W e, Below w.heap.size w W → (txOk (strT n len y L) n → e = .returned (.tuple #[.string (txT (strT n len y L)), .int .i64 0])) → (¬ txOk (strT n len y L) n → e = .returned (.tuple #[.string ⟨#[]⟩, .int .i64 181])) → JoQ L N n w e W from fun W e h q1 q2 => ⟨h, fun q => absurd hf q, fun _ q => absurd q ht, fun _ _ => ⟨len, y, hlen, hfit, q1, q2⟩⟩)
  obtain ⟨TX, hTX⟩ : ∃ q, txT (strT n len y L) = q := ⟨_, rfl⟩
  have HTXE := hide hTX
  obtain ⟨SB, hSB⟩ : ∃ q, strT n len y L = q := ⟨_, rfl⟩
  rw [hSB] at HSJ HTX HE
  have HWB := hide (show Below w.heap.size w wb from (unhide HB).trans ((unhide HW).1.mono hbs))
  have hwwb : w.heap.size ≤ wb.heap.size := by omega
  clear hf h1 h2 h3 ht hM hy hfst hsz hfit hfl hLb hfs hcs hcs2 hTX hSB
  have hncI : (n : Int) ≤ (c : Int) := by omega
  go_wp2
  clear hwb
  refine wp_region_held_drew (S := fun W => Below wb.heap.size wb W) (by kernel_rfl) (Below.refl _ _).drew ?_
  intro hS
  refine wpAnyH_takeD 0 (some 23) (.agg #[.slice pn n cn, .slice ps n cs]) rfl rfl (by kernel_rfl) (by kernel_rfl) (by kernel_rfl) (fun _ _ _ h => h) (Or.inl ⟨by rfl, fun w hSw => by have q0 := (unhide HC _ hSw).1; have q1 := (unhide HC _ hSw).2.1; have q2 := (unhide HC _ hSw).2.2; clear hSw; go_simp; try (intro hbad; omega)⟩) hS ?_
  simp only [Act.put, List.setIfInBounds_toArray, List.set_cons_zero, List.set_cons_succ]
  refine wpAnyH_takeD 1 (some 24) (.slice (some ⟨g, o, none⟩) N c) rfl rfl (by kernel_rfl) (by kernel_rfl) (by kernel_rfl) (fun _ _ _ h => h) (Or.inl ⟨by rfl, fun w hSw => by have q0 := (unhide HC _ hSw).1; have q1 := (unhide HC _ hSw).2.1; have q2 := (unhide HC _ hSw).2.2; clear hSw; go_simp; try (intro hbad; omega)⟩) hS ?_
  simp only [Act.put, List.setIfInBounds_toArray, List.set_cons_zero, List.set_cons_succ]
  refine wpAnyH_takeD 2 (some 25) (.int .i64 (n : Int)) rfl rfl (by kernel_rfl) (by kernel_rfl) (by kernel_rfl) (fun _ _ _ h => h) (Or.inl ⟨by rfl, fun w hSw => by have q0 := (unhide HC _ hSw).1; have q1 := (unhide HC _ hSw).2.1; have q2 := (unhide HC _ hSw).2.2; clear hSw; go_simp; try (intro hbad; omega)⟩) hS ?_
  simp only [Act.put, List.setIfInBounds_toArray, List.set_cons_zero, List.set_cons_succ]
  refine wpAnyH_takeD 3 (some 26) (.slice (some ⟨g, o, none⟩) n c) rfl rfl (by kernel_rfl) (by kernel_rfl) (by kernel_rfl) (fun _ _ _ h => h) (Or.inl ⟨by rfl, fun w hSw => by have q0 := (unhide HC _ hSw).1; have q1 := (unhide HC _ hSw).2.1; have q2 := (unhide HC _ hSw).2.2; clear hSw; go_simp; try (intro hbad; omega)⟩) hS ?_
  simp only [Act.put, List.setIfInBounds_toArray, List.set_cons_zero, List.set_cons_succ]
  refine wpAnyH_ready (rs := [4]) (by kernel_rfl) (by simp) ?_
  refine AllReadyH.cons rfl (fun K hK => ?_) AllReadyH.nil
  simp only [List.getElem_toArray, List.getElem_cons_succ, List.getElem_cons_zero]
  go_simp
  refine (unhide HFI _ hS).mono ?_
  rintro e y1 ⟨p5, c5, rfl, ho5, hb5⟩
  obtain ⟨p6, c6, e6, hc6⟩ := gr_form ho5
  obtain ⟨rfl, rfl⟩ : p5 = p6 ∧ c5 = c6 := by injection e6 with a1 _ a3; exact ⟨a1, a3⟩
  obtain ⟨g5, rfl, _, _, _, hg5⟩ := gr_cell ho5 0 (by omega)
  have HX := hide (And.intro ho5 (show Below wb.heap.size wb y1 from hS.trans (hb5.mono hS.size)))
  have hy1s := (unhide HX).2.size
  clear ho5 hb5 e6
  refine hK.out _ _ (unhide HX).2 (fun hS => ?_)
  clear hK K
  refine wpAnyH_ready (rs := [5]) (by kernel_rfl) (by simp) ?_
  refine AllReadyH.cons rfl (fun K hK => ?_) AllReadyH.nil
  simp only [List.getElem_toArray, List.getElem_cons_succ, List.getElem_cons_zero]
  go_simp
  refine (unhide HSJ y1 g5 c5 hc6 hg5 (unhide HX).1).mono ?_
  rintro e y2 ⟨rfl, hb6⟩
  have HY := hide (show Below wb.heap.size wb y2 from (unhide HX).2.trans (hb6.mono hy1s))
  clear hb6 HX
  refine hK.out _ _ (unhide HY) (fun hS => ?_)
  clear hK K
  refine wpAnyH_takeD 6 (some 10) (.string SB) rfl rfl (by kernel_rfl) (by kernel_rfl) (by kernel_rfl) (fun _ _ _ h => h) (Or.inl ⟨by rfl, fun w hSw => by have q0 := (unhide HC _ hSw).1; have q1 := (unhide HC _ hSw).2.1; have q2 := (unhide HC _ hSw).2.2; clear hSw; go_simp; try (intro hbad; omega)⟩) hS ?_
  simp only [Act.put, List.setIfInBounds_toArray, List.set_cons_zero, List.set_cons_succ]
  refine wpAnyH_done (by kernel_rfl) ?_ _
  clear hS
  go_wp2_with fail
  refine (unhide HTX _).mono ?_
  rintro e y3 ⟨hb7, h7, h8⟩
  have HB7 := hide (show Below w.heap.size w y3 from (unhide HWB).trans (((unhide HY).trans (hb7.mono (unhide HY).size)).mono hwwb))
  clear hb7
  by_cases hok : txOk SB n
  · obtain rfl := h7 hok
    have HF9 := hide (unhide HE y3 (.returned (.tuple #[.string (txT SB), .int .i64 0])) (unhide HB7) (fun _ => rfl) (fun q => absurd hok q))
    clear h7 h8 hok HE
    go_wp2
    go_ret2
    exact unhide HF9
  · obtain rfl := h8 hok
    have HF9 := hide (unhide HE y3 (.returned (.tuple #[.string ⟨#[]⟩, .int .i64 181])) (unhide HB7) (fun q => absurd q hok) (fun _ => rfl))
    clear h7 h8 hok HE
    go_wp2
    go_ret2
    exact unhide HF9
set_option maxHeartbeats 8000000 in
theorem pwrong_any (w : World) (L : List ByteArray) (N n m B c : Nat) (p : Option Addr) (hN : L.length = N) (hNm : N = n + m) (hn1 : 1 ≤ n) (hn2 : n ≤ 16) (hm : m ≤ 8) (hL : GTx w B p L) (hB : B ≤ w.heap.size) (hsb : ∀ j, sz L j ≤ 9223372036854775807) : Calls Tryd.prog 13 #[.slice p N c, .int .i64 (n : Int), .int .i64 (m : Int)] w (WrQ L N n w) := by
  have HF := hide (pfirst_any w L N n m B c p hN hNm hn1 hn2 hm hL hB hsb)
  obtain ⟨g, o, rfl, hg0, _⟩ := hL 0 (by omega)
  have HL := hide (And.intro hN (And.intro hNm (And.intro hL hB)))
  have hNb : N ≤ n + 8 := by omega
  clear hN hNm hL hB hsb
  go_enter Tryd.func13, Tryd.ntmps13
  go_wp2_with fail
  refine (unhide HF).mono ?_
  rintro e w1 ⟨hb, h1, h2, h3⟩
  have HB := hide hb
  have hbs := hb.size
  clear hb HF
  by_cases hf : frm L N
  case neg =>
    obtain rfl := h1 hf
    have HE := hide (show ∀ W, Below w.heap.size w W → WrQ L N n w (.returned (.tuple #[.bool false, .int .i64 181])) W from fun W h => ⟨h, fun _ => rfl, fun q => absurd q hf, fun q => absurd q hf⟩)
    clear hf h1 h2 h3
    unfold aggE
    go_wp2
    go_ret2
    exact unhide HE _ ((unhide HB).alloc hbs _)
  by_cases ht : (thr L N).length < n
  · obtain rfl := h2 hf ht
    have HE := hide (show ∀ W, Below w.heap.size w W → WrQ L N n w (.returned (.tuple #[.bool false, .int .i64 182])) W from fun W h => ⟨h, fun q => absurd hf q, fun _ _ => rfl, fun _ q => by omega⟩)
    clear hf h1 h2 h3 ht
    unfold aggE
    go_wp2
    go_ret2
    exact unhide HE _ ((unhide HB).alloc hbs _)
  obtain ⟨pn, cn, ps, cs, len, rfl, hlen, hsz, hM⟩ := h3 hf (by omega)
  have hfst := thr_fst L N n m (unhide HL).2.1 hn1 hn2 hm (by omega)
  obtain ⟨y, hy⟩ := fits_ex hfst
  have hfit : Fits L N n len y := ⟨hsz, fun q _ r hr => hy q r hr⟩
  obtain ⟨wb, hwb⟩ : ∃ q, w1.alloc (.cells #[.slice pn n cn, .slice ps n cs] 43) = q := ⟨_, rfl⟩
  have HW := hide (show Below w1.heap.size w1 wb ∧ w1.heap.size < wb.heap.size ∧ wb.cell? ⟨w1.heap.size, 0, none⟩ = some (.slice pn n cn) ∧ wb.cell? ⟨w1.heap.size, 1, none⟩ = some (.slice ps n cs) from by
    subst hwb
    have hB9 := Blk.new w1 43 #[.slice pn n cn, .slice ps n cs]
    exact ⟨(Below.refl _ _).alloc (Nat.le_refl _) _, by simp, hB9.cell 0, hB9.cell 1⟩)
  have hws := (unhide HW).2.1
  have q0 := (unhide HW).2.2.1
  have q1 := (unhide HW).2.2.2
  have hMb : FoM wb w1.heap.size n len pn ps (fun r => (thr L N).getD r 0) (fun r q => gB (L.getD ((thr L N).getD r 0) ByteArray.empty) q) := hM.below (unhide HW).1
  have HLA := hide (plast_any wb w1.heap.size n len cn cs pn ps _ _ hn1 hn2 hMb (by omega))
  have HSY := hide (fun (W : World) (h : Below wb.heap.size wb W) (k : Nat) (hk : k < n + 8) => psay_any W w1.heap.size n len k cn cs pn ps (fun r => (thr L N).getD r 0) (fun r q => gB (L.getD ((thr L N).getD r 0) ByteArray.empty) q) y hfst hk (by omega) (hMb.below (h.mono (by omega))) (by have := h.size; omega) (fun q _ r hr => hy q r hr))
  have hla : (thr L N).getD (n - 1) 0 < N := by
    have hm2 : (thr L N).getD (n - 1) 0 ∈ thr L N := by
      rw [List.getD_eq_getElem?_getD, List.getElem?_eq_getElem (by omega)]
      exact List.getElem_mem _
    exact (thr_mem L N _ hm2).1
  have HE := hide (show ∀ W b, Below w.heap.size w W → (b = true ↔ ∃ k, (thr L N).getD (n - 1) 0 < k ∧ k < N ∧ sz L k ≠ 0 ∧ L.getD k ByteArray.empty ≠ sayT n len k y) → WrQ L N n w (.returned (.tuple #[.bool b, .int .i64 0])) W from fun W b h q1 => ⟨h, fun q => absurd hf q, fun _ q => absurd q ht, fun _ _ => ⟨len, y, b, hlen, hfit, rfl, q1⟩⟩)
  have HWB := hide (show Below w.heap.size w wb from (unhide HB).trans ((unhide HW).1.mono hbs))
  have hwwb : w.heap.size ≤ wb.heap.size := by omega
  obtain ⟨la, hla2⟩ : ∃ q, (thr L N).getD (n - 1) 0 = q := ⟨_, rfl⟩
  rw [hla2] at HLA hla HE
  clear hf h1 h2 h3 ht hM hy hfst hsz hfit hMb hla2
  go_wp2_with fail
  refine (unhide HLA).mono ?_
  rintro e y0 ⟨rfl, hy0⟩
  have HY0 := hide hy0
  clear hy0 HLA hwb q0 q1
  have hN24 : N ≤ 24 := by omega
  go_wp2
  go_loopw [10] (fun i wr => ∃ k : Nat, la < k ∧ k ≤ N ∧ i = .int .i64 (k : Int) ∧ Hid (Below wb.heap.size wb wr) ∧ Hid (∀ j, la < j → j < k → sz L j ≠ 0 → L.getD j ByteArray.empty = sayT n len j y)) (fun i _ => N - (intOf i).toNat)
  case atStart => exact ⟨la + 1, by omega, by omega, by go_num, HY0, hide (fun j h1 h2 => by omega)⟩
  case round =>
  obtain ⟨k, hk1, hk, rfl, HK, HA⟩ := hrel
  obtain ⟨wk, rfl⟩ : ∃ q, q = wr := ⟨_, rfl⟩
  clear HY0
  by_cases hkn : k < N
  case neg =>
    have hkn' : ¬ (k : Int) < (N : Int) := by omega
    have HF9 := hide (unhide HE wk false ((unhide HWB).trans ((unhide HK).mono hwwb)) ⟨fun h => (by cases h), fun ⟨j, h1, h2, h3, h4⟩ => absurd (unhide HA j h1 (by omega) h3) h4⟩)
    clear HE
    go_wp2
    go_ret2
    exact unhide HF9
  have hkn' : (k : Int) < (N : Int) := by omega
  have hk8 : k < n + 8 := by omega
  obtain ⟨g', o', e', hg, hc⟩ := (unhide HL).2.2.1 k (by rw [(unhide HL).1]; exact hkn)
  obtain ⟨rfl, rfl⟩ : g' = g ∧ o' = o := by injection e' with e; injection e with e1 e2; exact ⟨e1.symm, e2.symm⟩
  have hgw : g' < w.heap.size := Nat.lt_of_lt_of_le hg (unhide HL).2.2.2
  have hcb : wb.cell? ⟨g', o' + k, none⟩ = some (.string (L.getD k ByteArray.empty)) := ((unhide HWB).cell (p := ⟨g', o' + k, none⟩) hgw).trans hc
  have HSZ := hide (show sz L k = (L.getD k ByteArray.empty).size from rfl)
  have HSX := hide (show strOfNums (gL len (fun q => rK n (y q) (wt n k))) = sayT n len k y from rfl)
  obtain ⟨S, hS⟩ : ∃ q, L.getD k ByteArray.empty = q := ⟨_, rfl⟩
  have HSE := hide hS
  rw [hS] at hcb HSZ
  obtain ⟨SX, hSX⟩ : ∃ q, sayT n len k y = q := ⟨_, rfl⟩
  have HSXE := hide hSX
  rw [hSX] at HSX
  clear hS hSX hc e'
  obtain ⟨g, hgg⟩ : ∃ q, q = g' := ⟨_, rfl⟩
  subst hgg
  obtain ⟨o, hoo⟩ : ∃ q, q = o' := ⟨_, rfl⟩
  subst hoo
  have HC := hide (fun (W : World) (h : Below wb.heap.size wb W) => show W.cell? ⟨w1.heap.size, 0, none⟩ = some (.slice pn n cn) ∧ W.cell? ⟨w1.heap.size, 1, none⟩ = some (.slice ps n cs) ∧ W.cell? ⟨g, o + k, none⟩ = some (.string S) from ⟨(h.cell (p := ⟨w1.heap.size, 0, none⟩) hws).trans (unhide HW).2.2.1, (h.cell (p := ⟨w1.heap.size, 1, none⟩) hws).trans (unhide HW).2.2.2, (h.cell (p := ⟨g, o + k, none⟩) (by show g < wb.heap.size; omega)).trans hcb⟩)
  have k0 : 0 ≤ (k : Int) := by omega
  clear hcb
  by_cases hz : S.size = 0
  case pos =>
    obtain rfl : S = ⟨#[]⟩ := by
      cases S with
      | mk a =>
        have h : a = #[] := Array.eq_empty_of_size_eq_zero hz
        rw [h]
    have HA2 := hide (show ∀ j, la < j → j < k + 1 → sz L j ≠ 0 → L.getD j ByteArray.empty = sayT n len j y from fun j h1 h2 h3 => by
      by_cases q : j = k
      · rw [q, unhide HSZ, hz] at h3; exact absurd rfl h3
      · exact unhide HA j h1 (by omega) h3)
    clear hz HA
    go_wp2
    refine wp_region_held_drew (S := fun W => Below wb.heap.size wb W) (by kernel_rfl) ((unhide HK).drew) ?_
    intro hS
    refine wpAnyH_takeD 0 (some 30) (.slice (some ⟨g, o, none⟩) N c) rfl rfl (by kernel_rfl) (by kernel_rfl) (by kernel_rfl) (fun _ _ _ h => h) (Or.inl ⟨by rfl, fun w hSw => by have q0 := (unhide HC _ hSw).1; have q1 := (unhide HC _ hSw).2.1; have q2 := (unhide HC _ hSw).2.2; clear hSw; go_simp; try (intro hbad; omega)⟩) hS ?_
    simp only [Act.put, List.setIfInBounds_toArray, List.set_cons_zero, List.set_cons_succ]
    refine wpAnyH_takeD 1 (some 31) (.int .i64 (k : Int)) rfl rfl (by kernel_rfl) (by kernel_rfl) (by kernel_rfl) (fun _ _ _ h => h) (Or.inl ⟨by rfl, fun w hSw => by have q0 := (unhide HC _ hSw).1; have q1 := (unhide HC _ hSw).2.1; have q2 := (unhide HC _ hSw).2.2; clear hSw; go_simp; try (intro hbad; omega)⟩) hS ?_
    simp only [Act.put, List.setIfInBounds_toArray, List.set_cons_zero, List.set_cons_succ]
    refine wpAnyH_takeD 2 (some 32) (.pointer (some ⟨g, o + k, none⟩)) rfl rfl (by kernel_rfl) (by kernel_rfl) (by kernel_rfl) (fun _ _ _ h => h) (Or.inl ⟨by rfl, fun w hSw => by have q0 := (unhide HC _ hSw).1; have q1 := (unhide HC _ hSw).2.1; have q2 := (unhide HC _ hSw).2.2; clear hSw; go_simp; try (intro hbad; omega)⟩) hS ?_
    simp only [Act.put, List.setIfInBounds_toArray, List.set_cons_zero, List.set_cons_succ]
    refine wpAnyH_takeD 3 (some 33) (.string ⟨#[]⟩) rfl rfl (by kernel_rfl) (by kernel_rfl) (by kernel_rfl) (fun _ _ _ h => h) (Or.inl ⟨by rfl, fun w hSw => by have q0 := (unhide HC _ hSw).1; have q1 := (unhide HC _ hSw).2.1; have q2 := (unhide HC _ hSw).2.2; clear hSw; go_simp; try (intro hbad; omega)⟩) hS ?_
    simp only [Act.put, List.setIfInBounds_toArray, List.set_cons_zero, List.set_cons_succ]
    refine wpAnyH_takeD 4 (some 34) (.bool false) rfl rfl (by kernel_rfl) (by kernel_rfl) (by kernel_rfl) (fun _ _ _ h => h) (Or.inl ⟨by rfl, fun w hSw => by have q0 := (unhide HC _ hSw).1; have q1 := (unhide HC _ hSw).2.1; have q2 := (unhide HC _ hSw).2.2; clear hSw; go_simp; try (intro hbad; omega)⟩) hS ?_
    simp only [Act.put, List.setIfInBounds_toArray, List.set_cons_zero, List.set_cons_succ]
    refine wpAnyH_takeD 5 (some 35) (.bool false) rfl rfl (by kernel_rfl) (by kernel_rfl) (by kernel_rfl) (fun _ _ _ h => h) (Or.inl ⟨by rfl, fun w hSw => by have q0 := (unhide HC _ hSw).1; have q1 := (unhide HC _ hSw).2.1; have q2 := (unhide HC _ hSw).2.2; clear hSw; go_simp; try (intro hbad; omega)⟩) hS ?_
    simp only [Act.put, List.setIfInBounds_toArray, List.set_cons_zero, List.set_cons_succ]
    refine wpAnyH_takeD 6 (some 36) undef rfl rfl (by kernel_rfl) (by kernel_rfl) (by kernel_rfl) (fun _ _ _ h => h) (Or.inr ⟨by rfl, rfl⟩) hS ?_
    simp only [Act.put, List.setIfInBounds_toArray, List.set_cons_zero, List.set_cons_succ]
    refine wpAnyH_takeD 7 (some 37) undef rfl rfl (by kernel_rfl) (by kernel_rfl) (by kernel_rfl) (fun _ _ _ h => h) (Or.inr ⟨by rfl, rfl⟩) hS ?_
    simp only [Act.put, List.setIfInBounds_toArray, List.set_cons_zero, List.set_cons_succ]
    refine wpAnyH_takeD 8 (some 38) undef rfl rfl (by kernel_rfl) (by kernel_rfl) (by kernel_rfl) (fun _ _ _ h => h) (Or.inr ⟨by rfl, rfl⟩) hS ?_
    simp only [Act.put, List.setIfInBounds_toArray, List.set_cons_zero, List.set_cons_succ]
    refine wpAnyH_takeD 9 (some 39) undef rfl rfl (by kernel_rfl) (by kernel_rfl) (by kernel_rfl) (fun _ _ _ h => h) (Or.inr ⟨by rfl, rfl⟩) hS ?_
    simp only [Act.put, List.setIfInBounds_toArray, List.set_cons_zero, List.set_cons_succ]
    refine wpAnyH_takeD 10 (some 40) undef rfl rfl (by kernel_rfl) (by kernel_rfl) (by kernel_rfl) (fun _ _ _ h => h) (Or.inr ⟨by rfl, rfl⟩) hS ?_
    simp only [Act.put, List.setIfInBounds_toArray, List.set_cons_zero, List.set_cons_succ]
    refine wpAnyH_takeD 11 (some 41) undef rfl rfl (by kernel_rfl) (by kernel_rfl) (by kernel_rfl) (fun _ _ _ h => h) (Or.inr ⟨by rfl, rfl⟩) hS ?_
    simp only [Act.put, List.setIfInBounds_toArray, List.set_cons_zero, List.set_cons_succ]
    refine wpAnyH_takeD 12 (some 42) undef rfl rfl (by kernel_rfl) (by kernel_rfl) (by kernel_rfl) (fun _ _ _ h => h) (Or.inr ⟨by rfl, rfl⟩) hS ?_
    simp only [Act.put, List.setIfInBounds_toArray, List.set_cons_zero, List.set_cons_succ]
    refine wpAnyH_takeD 13 (some 43) undef rfl rfl (by kernel_rfl) (by kernel_rfl) (by kernel_rfl) (fun _ _ _ h => h) (Or.inr ⟨by rfl, rfl⟩) hS ?_
    simp only [Act.put, List.setIfInBounds_toArray, List.set_cons_zero, List.set_cons_succ]
    refine wpAnyH_takeD 14 (some 44) undef rfl rfl (by kernel_rfl) (by kernel_rfl) (by kernel_rfl) (fun _ _ _ h => h) (Or.inr ⟨by rfl, rfl⟩) hS ?_
    simp only [Act.put, List.setIfInBounds_toArray, List.set_cons_zero, List.set_cons_succ]
    refine wpAnyH_takeD 15 (some 45) (.bool false) rfl rfl (by kernel_rfl) (by kernel_rfl) (by kernel_rfl) (fun _ _ _ h => h) (Or.inl ⟨by rfl, fun w hSw => by have q0 := (unhide HC _ hSw).1; have q1 := (unhide HC _ hSw).2.1; have q2 := (unhide HC _ hSw).2.2; clear hSw; go_simp; try (intro hbad; omega)⟩) hS ?_
    simp only [Act.put, List.setIfInBounds_toArray, List.set_cons_zero, List.set_cons_succ]
    refine wpAnyH_done (by kernel_rfl) ?_ _
    have HKD := hide (unhide HK).drew
    clear HK
    go_wp2
    go_roundw
    case rel => exact ⟨k + 1, by omega, by omega, by go_num, HKD, HA2⟩
    case measure => simp [intOf] <;> omega
  have hem : (S.toList == (⟨#[]⟩ : ByteArray).toList) = false := str_ne (fun e => hz (by rw [e]; rfl))
  have hem2 : S.toList.isEmpty = false := by simpa using hem
  by_cases hsx : S = SX
  case pos =>
    have HA2 := hide (show ∀ j, la < j → j < k + 1 → sz L j ≠ 0 → L.getD j ByteArray.empty = sayT n len j y from fun j h1 h2 h3 => by
      by_cases q : j = k
      · rw [q, unhide HSE, unhide HSXE, hsx]
      · exact unhide HA j h1 (by omega) h3)
    subst hsx
    clear hz HA hem
    go_wp2
    refine wp_region_held_drew (S := fun W => Below wb.heap.size wb W) (by kernel_rfl) ((unhide HK).drew) ?_
    intro hS
    refine wpAnyH_takeD 0 (some 30) (.slice (some ⟨g, o, none⟩) N c) rfl rfl (by kernel_rfl) (by kernel_rfl) (by kernel_rfl) (fun _ _ _ h => h) (Or.inl ⟨by rfl, fun w hSw => by have q0 := (unhide HC _ hSw).1; have q1 := (unhide HC _ hSw).2.1; have q2 := (unhide HC _ hSw).2.2; clear hSw; go_simp; try (intro hbad; omega)⟩) hS ?_
    simp only [Act.put, List.setIfInBounds_toArray, List.set_cons_zero, List.set_cons_succ]
    refine wpAnyH_takeD 1 (some 31) (.int .i64 (k : Int)) rfl rfl (by kernel_rfl) (by kernel_rfl) (by kernel_rfl) (fun _ _ _ h => h) (Or.inl ⟨by rfl, fun w hSw => by have q0 := (unhide HC _ hSw).1; have q1 := (unhide HC _ hSw).2.1; have q2 := (unhide HC _ hSw).2.2; clear hSw; go_simp; try (intro hbad; omega)⟩) hS ?_
    simp only [Act.put, List.setIfInBounds_toArray, List.set_cons_zero, List.set_cons_succ]
    refine wpAnyH_takeD 2 (some 32) (.pointer (some ⟨g, o + k, none⟩)) rfl rfl (by kernel_rfl) (by kernel_rfl) (by kernel_rfl) (fun _ _ _ h => h) (Or.inl ⟨by rfl, fun w hSw => by have q0 := (unhide HC _ hSw).1; have q1 := (unhide HC _ hSw).2.1; have q2 := (unhide HC _ hSw).2.2; clear hSw; go_simp; try (intro hbad; omega)⟩) hS ?_
    simp only [Act.put, List.setIfInBounds_toArray, List.set_cons_zero, List.set_cons_succ]
    refine wpAnyH_takeD 3 (some 33) (.string S) rfl rfl (by kernel_rfl) (by kernel_rfl) (by kernel_rfl) (fun _ _ _ h => h) (Or.inl ⟨by rfl, fun w hSw => by have q0 := (unhide HC _ hSw).1; have q1 := (unhide HC _ hSw).2.1; have q2 := (unhide HC _ hSw).2.2; clear hSw; go_simp; try (intro hbad; omega)⟩) hS ?_
    simp only [Act.put, List.setIfInBounds_toArray, List.set_cons_zero, List.set_cons_succ]
    refine wpAnyH_takeD 4 (some 34) (.bool true) rfl rfl (by kernel_rfl) (by kernel_rfl) (by kernel_rfl) (fun _ _ _ h => h) (Or.inl ⟨by rfl, fun w hSw => by have q0 := (unhide HC _ hSw).1; have q1 := (unhide HC _ hSw).2.1; have q2 := (unhide HC _ hSw).2.2; clear hSw; go_simp; try (intro hbad; omega)⟩) hS ?_
    simp only [Act.put, List.setIfInBounds_toArray, List.set_cons_zero, List.set_cons_succ]
    refine wpAnyH_takeD 5 (some 35) (.bool true) rfl rfl (by kernel_rfl) (by kernel_rfl) (by kernel_rfl) (fun _ _ _ h => h) (Or.inl ⟨by rfl, fun w hSw => by have q0 := (unhide HC _ hSw).1; have q1 := (unhide HC _ hSw).2.1; have q2 := (unhide HC _ hSw).2.2; clear hSw; go_simp; try (intro hbad; omega)⟩) hS ?_
    simp only [Act.put, List.setIfInBounds_toArray, List.set_cons_zero, List.set_cons_succ]
    refine wpAnyH_takeD 6 (some 36) (.slice (some ⟨g, o, none⟩) N c) rfl rfl (by kernel_rfl) (by kernel_rfl) (by kernel_rfl) (fun _ _ _ h => h) (Or.inl ⟨by rfl, fun w hSw => by have q0 := (unhide HC _ hSw).1; have q1 := (unhide HC _ hSw).2.1; have q2 := (unhide HC _ hSw).2.2; clear hSw; go_simp; try (intro hbad; omega)⟩) hS ?_
    simp only [Act.put, List.setIfInBounds_toArray, List.set_cons_zero, List.set_cons_succ]
    refine wpAnyH_takeD 7 (some 37) (.int .i64 (k : Int)) rfl rfl (by kernel_rfl) (by kernel_rfl) (by kernel_rfl) (fun _ _ _ h => h) (Or.inl ⟨by rfl, fun w hSw => by have q0 := (unhide HC _ hSw).1; have q1 := (unhide HC _ hSw).2.1; have q2 := (unhide HC _ hSw).2.2; clear hSw; go_simp; try (intro hbad; omega)⟩) hS ?_
    simp only [Act.put, List.setIfInBounds_toArray, List.set_cons_zero, List.set_cons_succ]
    refine wpAnyH_takeD 8 (some 38) (.pointer (some ⟨g, o + k, none⟩)) rfl rfl (by kernel_rfl) (by kernel_rfl) (by kernel_rfl) (fun _ _ _ h => h) (Or.inl ⟨by rfl, fun w hSw => by have q0 := (unhide HC _ hSw).1; have q1 := (unhide HC _ hSw).2.1; have q2 := (unhide HC _ hSw).2.2; clear hSw; go_simp; try (intro hbad; omega)⟩) hS ?_
    simp only [Act.put, List.setIfInBounds_toArray, List.set_cons_zero, List.set_cons_succ]
    refine wpAnyH_takeD 9 (some 39) (.string S) rfl rfl (by kernel_rfl) (by kernel_rfl) (by kernel_rfl) (fun _ _ _ h => h) (Or.inl ⟨by rfl, fun w hSw => by have q0 := (unhide HC _ hSw).1; have q1 := (unhide HC _ hSw).2.1; have q2 := (unhide HC _ hSw).2.2; clear hSw; go_simp; try (intro hbad; omega)⟩) hS ?_
    simp only [Act.put, List.setIfInBounds_toArray, List.set_cons_zero, List.set_cons_succ]
    refine wpAnyH_takeD 10 (some 40) (.agg #[.slice pn n cn, .slice ps n cs]) rfl rfl (by kernel_rfl) (by kernel_rfl) (by kernel_rfl) (fun _ _ _ h => h) (Or.inl ⟨by rfl, fun w hSw => by have q0 := (unhide HC _ hSw).1; have q1 := (unhide HC _ hSw).2.1; have q2 := (unhide HC _ hSw).2.2; clear hSw; go_simp; try (intro hbad; omega)⟩) hS ?_
    simp only [Act.put, List.setIfInBounds_toArray, List.set_cons_zero, List.set_cons_succ]
    refine wpAnyH_takeD 11 (some 41) (.int .i64 (k : Int)) rfl rfl (by kernel_rfl) (by kernel_rfl) (by kernel_rfl) (fun _ _ _ h => h) (Or.inl ⟨by rfl, fun w hSw => by have q0 := (unhide HC _ hSw).1; have q1 := (unhide HC _ hSw).2.1; have q2 := (unhide HC _ hSw).2.2; clear hSw; go_simp; try (intro hbad; omega)⟩) hS ?_
    simp only [Act.put, List.setIfInBounds_toArray, List.set_cons_zero, List.set_cons_succ]
    refine wpAnyH_ready (rs := [12]) (by kernel_rfl) (by simp) ?_
    refine AllReadyH.cons rfl (fun K hK => ?_) AllReadyH.nil
    simp only [List.getElem_toArray, List.getElem_cons_succ, List.getElem_cons_zero]
    go_simp
    refine (unhide HSY _ hS k hk8).mono ?_
    rintro e y1 ⟨g1, c1, rfl, ho1, hb1⟩
    have hcv := gW_conv ho1
    rw [unhide HSX] at hcv
    have HX := hide (show Below wb.heap.size wb y1 from hS.trans (hb1.mono hS.size))
    clear ho1 hb1
    refine hK.out _ _ (unhide HX) (fun hS => ?_)
    clear hK K
    refine wpAnyH_ready (rs := [13]) (by kernel_rfl) (by simp) ?_
    refine AllReadyH.cons rfl (fun K hK => ?_) AllReadyH.nil
    simp only [List.getElem_toArray, List.getElem_cons_succ, List.getElem_cons_zero]
    go_simp
    refine hK.out _ _ (unhide HX) (fun hS => ?_)
    clear hK K
    refine wpAnyH_takeD 14 (some 44) (.bool false) rfl rfl (by kernel_rfl) (by kernel_rfl) (by kernel_rfl) (fun _ _ _ h => h) (Or.inl ⟨by rfl, fun w hSw => by have q0 := (unhide HC _ hSw).1; have q1 := (unhide HC _ hSw).2.1; have q2 := (unhide HC _ hSw).2.2; clear hSw; go_simp; try (intro hbad; omega)⟩) hS ?_
    simp only [Act.put, List.setIfInBounds_toArray, List.set_cons_zero, List.set_cons_succ]
    refine wpAnyH_takeD 15 (some 45) (.bool false) rfl rfl (by kernel_rfl) (by kernel_rfl) (by kernel_rfl) (fun _ _ _ h => h) (Or.inl ⟨by rfl, fun w hSw => by have q0 := (unhide HC _ hSw).1; have q1 := (unhide HC _ hSw).2.1; have q2 := (unhide HC _ hSw).2.2; clear hSw; go_simp; try (intro hbad; omega)⟩) hS ?_
    simp only [Act.put, List.setIfInBounds_toArray, List.set_cons_zero, List.set_cons_succ]
    refine wpAnyH_done (by kernel_rfl) ?_ _
    clear HK
    go_wp2
    go_roundw
    case rel => exact ⟨k + 1, by omega, by omega, by go_num, HX, HA2⟩
    case measure => simp [intOf] <;> omega
  case neg =>
    have hsx2 : (S.toList == SX.toList) = false := str_ne hsx
    have HF9 := hide (fun (W : World) (h : Below wb.heap.size wb W) => unhide HE W true ((unhide HWB).trans (h.mono hwwb)) ⟨fun _ => ⟨k, hk1, hkn, by rw [unhide HSZ]; exact hz, by rw [unhide HSE, unhide HSXE]; exact hsx⟩, fun _ => rfl⟩)
    clear hz HA hem hsx HE
    go_wp2
    refine wp_region_held_drew (S := fun W => Below wb.heap.size wb W) (by kernel_rfl) ((unhide HK).drew) ?_
    intro hS
    refine wpAnyH_takeD 0 (some 30) (.slice (some ⟨g, o, none⟩) N c) rfl rfl (by kernel_rfl) (by kernel_rfl) (by kernel_rfl) (fun _ _ _ h => h) (Or.inl ⟨by rfl, fun w hSw => by have q0 := (unhide HC _ hSw).1; have q1 := (unhide HC _ hSw).2.1; have q2 := (unhide HC _ hSw).2.2; clear hSw; go_simp; try (intro hbad; omega)⟩) hS ?_
    simp only [Act.put, List.setIfInBounds_toArray, List.set_cons_zero, List.set_cons_succ]
    refine wpAnyH_takeD 1 (some 31) (.int .i64 (k : Int)) rfl rfl (by kernel_rfl) (by kernel_rfl) (by kernel_rfl) (fun _ _ _ h => h) (Or.inl ⟨by rfl, fun w hSw => by have q0 := (unhide HC _ hSw).1; have q1 := (unhide HC _ hSw).2.1; have q2 := (unhide HC _ hSw).2.2; clear hSw; go_simp; try (intro hbad; omega)⟩) hS ?_
    simp only [Act.put, List.setIfInBounds_toArray, List.set_cons_zero, List.set_cons_succ]
    refine wpAnyH_takeD 2 (some 32) (.pointer (some ⟨g, o + k, none⟩)) rfl rfl (by kernel_rfl) (by kernel_rfl) (by kernel_rfl) (fun _ _ _ h => h) (Or.inl ⟨by rfl, fun w hSw => by have q0 := (unhide HC _ hSw).1; have q1 := (unhide HC _ hSw).2.1; have q2 := (unhide HC _ hSw).2.2; clear hSw; go_simp; try (intro hbad; omega)⟩) hS ?_
    simp only [Act.put, List.setIfInBounds_toArray, List.set_cons_zero, List.set_cons_succ]
    refine wpAnyH_takeD 3 (some 33) (.string S) rfl rfl (by kernel_rfl) (by kernel_rfl) (by kernel_rfl) (fun _ _ _ h => h) (Or.inl ⟨by rfl, fun w hSw => by have q0 := (unhide HC _ hSw).1; have q1 := (unhide HC _ hSw).2.1; have q2 := (unhide HC _ hSw).2.2; clear hSw; go_simp; try (intro hbad; omega)⟩) hS ?_
    simp only [Act.put, List.setIfInBounds_toArray, List.set_cons_zero, List.set_cons_succ]
    refine wpAnyH_takeD 4 (some 34) (.bool true) rfl rfl (by kernel_rfl) (by kernel_rfl) (by kernel_rfl) (fun _ _ _ h => h) (Or.inl ⟨by rfl, fun w hSw => by have q0 := (unhide HC _ hSw).1; have q1 := (unhide HC _ hSw).2.1; have q2 := (unhide HC _ hSw).2.2; clear hSw; go_simp; try (intro hbad; omega)⟩) hS ?_
    simp only [Act.put, List.setIfInBounds_toArray, List.set_cons_zero, List.set_cons_succ]
    refine wpAnyH_takeD 5 (some 35) (.bool true) rfl rfl (by kernel_rfl) (by kernel_rfl) (by kernel_rfl) (fun _ _ _ h => h) (Or.inl ⟨by rfl, fun w hSw => by have q0 := (unhide HC _ hSw).1; have q1 := (unhide HC _ hSw).2.1; have q2 := (unhide HC _ hSw).2.2; clear hSw; go_simp; try (intro hbad; omega)⟩) hS ?_
    simp only [Act.put, List.setIfInBounds_toArray, List.set_cons_zero, List.set_cons_succ]
    refine wpAnyH_takeD 6 (some 36) (.slice (some ⟨g, o, none⟩) N c) rfl rfl (by kernel_rfl) (by kernel_rfl) (by kernel_rfl) (fun _ _ _ h => h) (Or.inl ⟨by rfl, fun w hSw => by have q0 := (unhide HC _ hSw).1; have q1 := (unhide HC _ hSw).2.1; have q2 := (unhide HC _ hSw).2.2; clear hSw; go_simp; try (intro hbad; omega)⟩) hS ?_
    simp only [Act.put, List.setIfInBounds_toArray, List.set_cons_zero, List.set_cons_succ]
    refine wpAnyH_takeD 7 (some 37) (.int .i64 (k : Int)) rfl rfl (by kernel_rfl) (by kernel_rfl) (by kernel_rfl) (fun _ _ _ h => h) (Or.inl ⟨by rfl, fun w hSw => by have q0 := (unhide HC _ hSw).1; have q1 := (unhide HC _ hSw).2.1; have q2 := (unhide HC _ hSw).2.2; clear hSw; go_simp; try (intro hbad; omega)⟩) hS ?_
    simp only [Act.put, List.setIfInBounds_toArray, List.set_cons_zero, List.set_cons_succ]
    refine wpAnyH_takeD 8 (some 38) (.pointer (some ⟨g, o + k, none⟩)) rfl rfl (by kernel_rfl) (by kernel_rfl) (by kernel_rfl) (fun _ _ _ h => h) (Or.inl ⟨by rfl, fun w hSw => by have q0 := (unhide HC _ hSw).1; have q1 := (unhide HC _ hSw).2.1; have q2 := (unhide HC _ hSw).2.2; clear hSw; go_simp; try (intro hbad; omega)⟩) hS ?_
    simp only [Act.put, List.setIfInBounds_toArray, List.set_cons_zero, List.set_cons_succ]
    refine wpAnyH_takeD 9 (some 39) (.string S) rfl rfl (by kernel_rfl) (by kernel_rfl) (by kernel_rfl) (fun _ _ _ h => h) (Or.inl ⟨by rfl, fun w hSw => by have q0 := (unhide HC _ hSw).1; have q1 := (unhide HC _ hSw).2.1; have q2 := (unhide HC _ hSw).2.2; clear hSw; go_simp; try (intro hbad; omega)⟩) hS ?_
    simp only [Act.put, List.setIfInBounds_toArray, List.set_cons_zero, List.set_cons_succ]
    refine wpAnyH_takeD 10 (some 40) (.agg #[.slice pn n cn, .slice ps n cs]) rfl rfl (by kernel_rfl) (by kernel_rfl) (by kernel_rfl) (fun _ _ _ h => h) (Or.inl ⟨by rfl, fun w hSw => by have q0 := (unhide HC _ hSw).1; have q1 := (unhide HC _ hSw).2.1; have q2 := (unhide HC _ hSw).2.2; clear hSw; go_simp; try (intro hbad; omega)⟩) hS ?_
    simp only [Act.put, List.setIfInBounds_toArray, List.set_cons_zero, List.set_cons_succ]
    refine wpAnyH_takeD 11 (some 41) (.int .i64 (k : Int)) rfl rfl (by kernel_rfl) (by kernel_rfl) (by kernel_rfl) (fun _ _ _ h => h) (Or.inl ⟨by rfl, fun w hSw => by have q0 := (unhide HC _ hSw).1; have q1 := (unhide HC _ hSw).2.1; have q2 := (unhide HC _ hSw).2.2; clear hSw; go_simp; try (intro hbad; omega)⟩) hS ?_
    simp only [Act.put, List.setIfInBounds_toArray, List.set_cons_zero, List.set_cons_succ]
    refine wpAnyH_ready (rs := [12]) (by kernel_rfl) (by simp) ?_
    refine AllReadyH.cons rfl (fun K hK => ?_) AllReadyH.nil
    simp only [List.getElem_toArray, List.getElem_cons_succ, List.getElem_cons_zero]
    go_simp
    refine (unhide HSY _ hS k hk8).mono ?_
    rintro e y1 ⟨g1, c1, rfl, ho1, hb1⟩
    have hcv := gW_conv ho1
    rw [unhide HSX] at hcv
    have HX := hide (show Below wb.heap.size wb y1 from hS.trans (hb1.mono hS.size))
    clear ho1 hb1
    refine hK.out _ _ (unhide HX) (fun hS => ?_)
    clear hK K
    refine wpAnyH_ready (rs := [13]) (by kernel_rfl) (by simp) ?_
    refine AllReadyH.cons rfl (fun K hK => ?_) AllReadyH.nil
    simp only [List.getElem_toArray, List.getElem_cons_succ, List.getElem_cons_zero]
    go_simp
    refine hK.out _ _ (unhide HX) (fun hS => ?_)
    clear hK K
    refine wpAnyH_takeD 14 (some 44) (.bool true) rfl rfl (by kernel_rfl) (by kernel_rfl) (by kernel_rfl) (fun _ _ _ h => h) (Or.inl ⟨by rfl, fun w hSw => by have q0 := (unhide HC _ hSw).1; have q1 := (unhide HC _ hSw).2.1; have q2 := (unhide HC _ hSw).2.2; clear hSw; go_simp; try (intro hbad; omega)⟩) hS ?_
    simp only [Act.put, List.setIfInBounds_toArray, List.set_cons_zero, List.set_cons_succ]
    refine wpAnyH_takeD 15 (some 45) (.bool true) rfl rfl (by kernel_rfl) (by kernel_rfl) (by kernel_rfl) (fun _ _ _ h => h) (Or.inl ⟨by rfl, fun w hSw => by have q0 := (unhide HC _ hSw).1; have q1 := (unhide HC _ hSw).2.1; have q2 := (unhide HC _ hSw).2.2; clear hSw; go_simp; try (intro hbad; omega)⟩) hS ?_
    simp only [Act.put, List.setIfInBounds_toArray, List.set_cons_zero, List.set_cons_succ]
    refine wpAnyH_done (by kernel_rfl) ?_ _
    have HFF := hide (unhide HF9 _ (unhide HX))
    clear HF9
    go_wp2
    go_ret2
    exact unhide HFF
end Go.Proofs.YtolblldpdgfkmaaDoor
