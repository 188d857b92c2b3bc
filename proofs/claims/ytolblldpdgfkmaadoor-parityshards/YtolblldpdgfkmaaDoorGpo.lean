import Derived.Test.YtolblldpdgfkmaaDoorGpn
import Derived.Test.YtolblldpdgfkmaaDoorGri
namespace Go.Proofs.YtolblldpdgfkmaaDoor
open Go.RowKit
set_option maxRecDepth 100000
theorem wrap_mul (lo ln : Nat) (h : lo + ln ≤ 1000000) : wrap64 ((lo : Int) + (ln : Int)) = (lo : Int) + (ln : Int) := wrap64_eq _ (by omega) (by omega)
/-- what cut answers -/
def CutQ (w : World) (b : ByteArray) (d ln : Nat) (e : Ending) (w' : World) : Prop := ∃ v, e = .returned v ∧ w'.ownsRow w.heap.size 9 1 v d (((List.range d).map (fun i => b.extract (i * ln) (i * ln + ln))).map Value.string) ∧ Below w.heap.size w w'
set_option maxHeartbeats 4000000 in
theorem pcut_any (w : World) (b : ByteArray) (d ln : Nat) (hd1 : 1 ≤ d) (hd2 : d ≤ 16) (hb : b.size = d * ln) (hln : ln ≤ 60020) : Calls Tryd.prog 30 #[.string b, .int .i64 (d : Int)] w (CutQ w b d ln) := by
  have hquo : (b.size : Int) / (d : Int) = (ln : Int) := by
    rw [hb, Int.natCast_mul]
    exact Int.mul_ediv_cancel_left _ (by omega)
  obtain ⟨i0, hi, hz0, hz1, hz2⟩ := info_parts gr_str
  have HI := hide (And.intro hi (And.intro hz0 (And.intro hz1 hz2)))
  clear hi hz0 hz1 hz2
  have HB := hide hb
  have hTL : d * ln ≤ 1000000 := by
    have := Nat.mul_le_mul hd2 hln
    omega
  have HTL := hide hTL
  have hd0 : ((d : Int) == 0) = false := by simp; omega
  clear hb hTL
  go_enter Tryd.func30, Tryd.ntmps30
  go_wp2
  clear hquo
  go_loopw [6, 13] (fun u i wr => ∃ k : Nat, k ≤ d ∧ i = .int .i64 (k : Int) ∧ Hid (wr.ownsRow w.heap.size 9 1 u k (((List.range k).map (fun i => b.extract (i * ln) (i * ln + ln))).map Value.string) ∧ Below w.heap.size w wr)) (fun _ i _ => d - (intOf i).toNat)
  case atStart => exact ⟨0, by omega, rfl, hide ⟨World.ownsRow_nil _ _ _ _, Below.refl _ _⟩⟩
  case round =>
  obtain ⟨k, hk, rfl, HK⟩ := hrel
  obtain ⟨wi, rfl⟩ : ∃ q, q = wr := ⟨_, rfl⟩
  obtain ⟨pw, cw, rfl, hcw⟩ := gr_form (unhide HK).1
  by_cases hkn : k < d
  case neg =>
    obtain rfl : k = d := by omega
    have hkn' : ¬ (k : Int) < (k : Int) := by omega
    clear hcw
    go_wp2
    go_ret
    exact ⟨_, rfl, (unhide HK).1, (unhide HK).2⟩
  have hkn' : (k : Int) < (d : Int) := by omega
  have hkl : k * ln + ln ≤ d * ln := by
    have := Nat.mul_le_mul_right ln (show k + 1 ≤ d by omega)
    rw [Nat.add_mul, Nat.one_mul] at this
    exact this
  have hmu : (k : Int) * (ln : Int) = ((k * ln : Nat) : Int) := by rw [Int.natCast_mul]
  have hmu2 : ((k : Int) + 1) * (ln : Int) = ((k * ln : Nat) : Int) + (ln : Int) := by rw [Int.add_mul, Int.one_mul, hmu]
  obtain ⟨lo, hlo⟩ : ∃ q, k * ln = q := ⟨_, rfl⟩
  rw [hlo] at hkl hmu hmu2
  obtain ⟨hw1, hw2⟩ := wrap_two lo ln (Nat.le_trans hkl (unhide HTL))
  have hsl2 := slice_str b lo ln (by rw [unhide HB]; exact hkl)
  have HO := hide (show (wi.alloc (.cells #[.string (b.extract lo (lo + ln))] 9)).ownsRow w.heap.size 9 1 (.slice pw k cw) k (((List.range k).map (fun i => b.extract (i * ln) (i * ln + ln))).map Value.string) from (unhide HK).1.alloc _)
  have HBB := hide (unhide HK).2
  have hsz := (unhide HK).2.size
  have HLO := hide hlo
  clear HK hcw hlo hkl
  go_wp2_with (refine wpList_append_lies _ rfl (.tmp 16) (.tmp 26) 22 rfl w.heap.size 9 i0 (.string ⟨#[]⟩) 1 16 Tryd.underlying22 (unhide HI).1 (unhide HI).2.1 (unhide HI).2.2.1 (unhide HI).2.2.2 rfl (by decide) _ k _ rfl (unhide HO) ⟨wi.heap.size, 0, none⟩ 1 1 [.string (b.extract lo (lo + ln))] rfl rfl (fun q u hu => gr_new wi 9 _ q u hu) (by simp [Value.oneCell']) (by decide) (by unfold maxLen; omega) (by omega) (by simp; omega) (wi.heap.size + 1) (by simp) ?_)
  intro g5 cap5 x5 ho5 hg5 _ _
  have HN := hide (show x5.ownsRow w.heap.size 9 1 (.slice (some ⟨g5, 0, none⟩) (k + 1) cap5) (k + 1) (((List.range (k + 1)).map (fun i => b.extract (i * ln) (i * ln + ln))).map Value.string) ∧ Below w.heap.size w x5 from ⟨by
    rw [List.range_succ, List.map_append, List.map_append, List.map_singleton, List.map_singleton, unhide HLO, List.map_map]
    exact ho5, ((unhide HBB).alloc (unhide HBB).size _).grown hg5 (by simp; omega) (fun q hq => ((unhide HO).lt q hq).1)⟩)
  clear ho5 hg5 HO HBB
  go_wp2
  go_roundw
  case rel => exact ⟨k + 1, by omega, by go_num, HN⟩
  case measure => simp [intOf] <;> omega
/-- the first ones, as rows -/
theorem thr_sorted (L : List ByteArray) (N : Nat) : (thr L N).Nodup := (List.nodup_range (n := N)).filter _
theorem thr_fst (L : List ByteArray) (N n m : Nat) (hNm : N = n + m) (hn1 : 1 ≤ n) (hn2 : n ≤ 16) (hm : m ≤ 8) (ht : n ≤ (thr L N).length) : Fst n (fun r => (thr L N).getD r 0) := by
  have get : ∀ r, r < n → ∃ h : r < (thr L N).length, (thr L N).getD r 0 = (thr L N)[r] := fun r hr => ⟨by omega, by rw [List.getD_eq_getElem?_getD, List.getElem?_eq_getElem (by omega)]; rfl⟩
  refine ⟨hn1, hn2, fun r hr => ?_, fun r s hr hs e => ?_⟩
  · obtain ⟨h, e⟩ := get r hr
    show (thr L N).getD r 0 < n + 8
    rw [e]
    have := (thr_mem L N _ (List.getElem_mem h)).1
    omega
  · obtain ⟨h1, e1⟩ := get r hr
    obtain ⟨h2, e2⟩ := get s hs
    have e3 : (thr L N)[r] = (thr L N)[s] := by rw [← e1, ← e2]; exact e
    have hp := List.pairwise_iff_getElem.1 (thr_sorted L N)
    rcases Nat.lt_trichotomy r s with q | q | q
    · exact absurd e3 (hp r s h1 h2 q)
    · exact q
    · exact absurd e3.symm (hp s r h2 h1 q)
/-- data with which the first ones fit -/
def Fits (L : List ByteArray) (N n len : Nat) (y : Nat → Nat → G) : Prop := (∀ r, r < n → sz L ((thr L N).getD r 0) = len) ∧ ∀ q, q < len → ∀ r, r < n → rK n (y q) (wt n ((thr L N).getD r 0)) = gB (L.getD ((thr L N).getD r 0) ByteArray.empty) q
theorem fits_ex {L : List ByteArray} {N n : Nat} (hf : Fst n (fun r => (thr L N).getD r 0)) : ∃ y : Nat → Nat → G, ∀ q r, r < n → rK n (y q) (wt n ((thr L N).getD r 0)) = gB (L.getD ((thr L N).getD r 0) ByteArray.empty) q := by
  have h : ∀ q, ∃ z : Nat → G, ∀ r, r < n → rK n z (wt n ((thr L N).getD r 0)) = gB (L.getD ((thr L N).getD r 0) ByteArray.empty) q := fun q => hf.data (fun r => gB (L.getD ((thr L N).getD r 0) ByteArray.empty) q)
  exact ⟨fun q => Classical.choose (h q), fun q => Classical.choose_spec (h q)⟩
/-- what Rebuild answers -/
def RebQ (L : List ByteArray) (N n : Nat) (w : World) (e : Ending) (w' : World) : Prop := Below w.heap.size w w' ∧ (¬ frm L N → e = .returned (.tuple #[.slice none 0 0, .int .i64 181])) ∧ (frm L N → (thr L N).length < n → e = .returned (.tuple #[.slice none 0 0, .int .i64 182])) ∧ (frm L N → n ≤ (thr L N).length → ∃ len y p c, len ≤ 60004 ∧ Fits L N n len y ∧ e = .returned (.tuple #[.slice p N c, .int .i64 0]) ∧ w'.ownsRow w.heap.size 9 1 (.slice p N c) N (filL n len y L N))
theorem preb_bad (w : World) (N c : Nat) (p : Option Addr) (n m : Int) (h : cntB n m = false ∨ (N : Int) ≠ n + m) (hn : -100 ≤ n + m ∧ n + m ≤ 100 ∨ cntB n m = false) : Calls Tryd.prog 9 #[.slice p N c, .int .i64 n, .int .i64 m] w fun e w' => e = .returned (.tuple #[.slice none 0 0, .int .i64 180]) ∧ Below w.heap.size w w' := by
  have HF := hide (pfirst_bad w N c p n m h hn)
  clear h hn
  go_enter Tryd.func9, Tryd.ntmps9
  go_wp2_with fail
  refine (unhide HF).mono ?_
  rintro e w1 ⟨rfl, hb⟩
  have HB := hide hb
  have hbs := hb.size
  clear hb
  unfold aggE
  go_wp2
  go_ret2
  refine ⟨rfl, ?_⟩
  exact (unhide HB).alloc hbs _
set_option maxHeartbeats 4000000 in
theorem preb_any (w : World) (L : List ByteArray) (N n m B c : Nat) (p : Option Addr) (hN : L.length = N) (hNm : N = n + m) (hn1 : 1 ≤ n) (hn2 : n ≤ 16) (hm : m ≤ 8) (hL : GTx w B p L) (hB : B ≤ w.heap.size) (hsb : ∀ j, sz L j ≤ 9223372036854775807) : Calls Tryd.prog 9 #[.slice p N c, .int .i64 (n : Int), .int .i64 (m : Int)] w (RebQ L N n w) := by
  have HF := hide (pfirst_any w L N n m B c p hN hNm hn1 hn2 hm hL hB hsb)
  have HL := hide (And.intro hN (And.intro hNm (And.intro hL hB)))
  clear hN hNm hL hB hsb
  go_enter Tryd.func9, Tryd.ntmps9
  go_wp2_with fail
  refine (unhide HF).mono ?_
  rintro e w1 ⟨hb, h1, h2, h3⟩
  have HB := hide hb
  have hbs := hb.size
  clear hb HF
  by_cases hf : frm L N
  case neg =>
    obtain rfl := h1 hf
    have HE := hide (show ∀ W, Below w.heap.size w W → RebQ L N n w (.returned (.tuple #[.slice none 0 0, .int .i64 181])) W from fun W h => ⟨h, fun _ => rfl, fun q => absurd q hf, fun q => absurd q hf⟩)
    clear hf h1 h2 h3
    unfold aggE
    go_wp2
    go_ret2
    exact unhide HE _ ((unhide HB).alloc hbs _)
  by_cases ht : (thr L N).length < n
  · obtain rfl := h2 hf ht
    have HE := hide (show ∀ W, Below w.heap.size w W → RebQ L N n w (.returned (.tuple #[.slice none 0 0, .int .i64 182])) W from fun W h => ⟨h, fun q => absurd hf q, fun _ _ => rfl, fun _ q => by omega⟩)
    clear hf h1 h2 h3 ht
    unfold aggE
    go_wp2
    go_ret2
    exact unhide HE _ ((unhide HB).alloc hbs _)
  obtain ⟨pn, cn, ps, cs, len, rfl, hlen, hsz, hM⟩ := h3 hf (by omega)
  have hfst := thr_fst L N n m (unhide HL).2.1 hn1 hn2 hm (by omega)
  obtain ⟨y, hy⟩ := fits_ex hfst
  obtain ⟨wb, hwb⟩ : ∃ q, w1.alloc (.cells #[.slice pn n cn, .slice ps n cs] 43) = q := ⟨_, rfl⟩
  have HW := hide (show Below w1.heap.size w1 wb ∧ wb.cell? ⟨w1.heap.size, 0, none⟩ = some (.slice pn n cn) ∧ wb.cell? ⟨w1.heap.size, 1, none⟩ = some (.slice ps n cs) from by
    subst hwb
    have hB9 := Blk.new w1 43 #[.slice pn n cn, .slice ps n cs]
    exact ⟨(Below.refl _ _).alloc (Nat.le_refl _) _, hB9.cell 0, hB9.cell 1⟩)
  have q0 := (unhide HW).2.1
  have q1 := (unhide HW).2.2
  have HFI := hide (pfill_any wb L N w1.heap.size n len cn cs c pn ps p (fun r => (thr L N).getD r 0) (fun r q => gB (L.getD ((thr L N).getD r 0) ByteArray.empty) q) y (unhide HL).1 (by have := (unhide HL).2.1; omega) hfst (by omega) (hM.below (unhide HW).1) (fun j hj => by
    obtain ⟨g, o, e, hg, hc⟩ := (unhide HL).2.2.1 j hj
    have hgw : g < w.heap.size := Nat.lt_of_lt_of_le hg (unhide HL).2.2.2
    exact ⟨g, o, e, by omega, ((unhide HW).1.cell (p := ⟨g, o + j, none⟩) (by show g < w1.heap.size; omega)).trans (((unhide HB).cell (p := ⟨g, o + j, none⟩) hgw).trans hc)⟩) (unhide HW).1.size (fun q _ r hr => hy q r hr))
  have HE := hide (show ∀ W p5 c5, wb.heap.size ≤ W.heap.size → W.ownsRow wb.heap.size 9 1 (.slice p5 N c5) N (filL n len y L N) → Below wb.heap.size wb W → RebQ L N n w (.returned (.tuple #[.slice p5 N c5, .int .i64 0])) W from fun W p5 c5 _ ho hb => ⟨(unhide HB).trans (((unhide HW).1.trans (hb.mono (unhide HW).1.size)).mono hbs), fun q => absurd hf q, fun _ q => absurd q ht, fun _ _ => ⟨len, y, p5, c5, hlen, ⟨hsz, fun q _ r hr => hy q r hr⟩, rfl, gr_mono ho (by have := (unhide HW).1.size; omega)⟩⟩)
  clear hf h1 h2 h3 ht hM hy hfst hsz
  go_wp2_with fail
  refine (unhide HFI).mono ?_
  rintro e w2 ⟨p5, c5, rfl, ho, hb⟩
  have HF2 := hide (unhide HE _ _ _ hb.size ho hb)
  clear ho hb HE HFI
  go_wp2
  go_ret2
  exact unhide HF2
end Go.Proofs.YtolblldpdgfkmaaDoor
