import Derived.Test.YtolblldpdgfkmaaDoorGpi
import Derived.Test.YtolblldpdgfkmaaDoorGrj
namespace Go.Proofs.YtolblldpdgfkmaaDoor
open Go.RowKit
set_option maxRecDepth 100000
/-- a shard, as the data say -/
def sayT (n len k : Nat) (y : Nat → Nat → G) : ByteArray := strOfNums (gL len (fun q => rK n (y q) (wt n k)))
/-- a shard that is there, or what it must be -/
def filT (n len : Nat) (y : Nat → Nat → G) (L : List ByteArray) (j : Nat) : ByteArray := if sz L j = 0 then sayT n len j y else L.getD j ByteArray.empty
def filL (n len : Nat) (y : Nat → Nat → G) (L : List ByteArray) (k : Nat) : List Value := (List.range k).map (fun j => Value.string (filT n len y L j))
theorem filL_succ (n len : Nat) (y : Nat → Nat → G) (L : List ByteArray) (k : Nat) : filL n len y L (k + 1) = filL n len y L k ++ [.string (filT n len y L k)] := by simp [filL, List.range_succ]
def FilQ (w : World) (N n len : Nat) (y : Nat → Nat → G) (L : List ByteArray) (e : Ending) (w' : World) : Prop := ∃ p c, e = .returned (.slice p N c) ∧ w'.ownsRow w.heap.size 9 1 (.slice p N c) N (filL n len y L N) ∧ Below w.heap.size w w'
theorem gW_conv {w : World} {b g len c : Nat} {F : Nat → G} (h : w.ownsRow b 5 1 (.slice (some ⟨g, 0, none⟩) len c) len (gW len F)) : (convert 51 9 (.slice (some ⟨g, 0, none⟩) len c)).run Tryd.prog w = .ok (.string (strOfNums (gL len F))) w := by
  refine run_convert_bytes_arg (P := Tryd.prog) w 51 5 Tryd.underlying51 Tryd.underlying5 g 0 len c (gL len F) (gL_len _ _) (fun i hi => ?_) 9 Tryd.underlying9
  obtain ⟨g', e, h1, _, _, _⟩ := gr_cell h i hi
  obtain rfl : g' = g := by injection e with e; injection e with e; exact e.symm
  rw [Nat.zero_add, h1, gW_at _ hi, gL_get _ hi]
set_option maxHeartbeats 8000000 in
theorem pfill_any (w : World) (L : List ByteArray) (N B n len cn cs c : Nat) (pn ps p : Option Addr) (f : Nat → Nat) (D : Nat → Nat → G) (y : Nat → Nat → G) (hN : L.length = N) (hNn : N ≤ n + 8) (hf : Fst n f) (hlen : len ≤ 70000) (hM : FoM w B n len pn ps f D) (hL : GTx w B p L) (hB : B ≤ w.heap.size) (hy : ∀ q, q < len → ∀ r, r < n → rK n (y q) (wt n (f r)) = D r q) : Calls Tryd.prog 20 #[.agg #[.slice pn n cn, .slice ps n cs], .slice p N c] w (FilQ w N n len y L) := by
  have hn2 := hf.n2
  obtain ⟨i0, hi, hz0, hz1, hz2⟩ := info_parts gr_str
  have HI := hide (And.intro hi (And.intro hz0 (And.intro hz1 hz2)))
  clear hi hz0 hz1 hz2
  obtain ⟨wb, hwb⟩ : ∃ q, w.alloc (.cells #[.slice pn n cn, .slice ps n cs] 43) = q := ⟨_, rfl⟩
  have HW := hide (show Below w.heap.size w wb ∧ w.heap.size < wb.heap.size ∧ wb.cell? ⟨w.heap.size, 0, none⟩ = some (.slice pn n cn) ∧ wb.cell? ⟨w.heap.size, 1, none⟩ = some (.slice ps n cs) from by
    subst hwb
    exact ⟨(Below.refl _ _).alloc (Nat.le_refl _) _, by simp, (Blk.new w _ _).cell 0, (Blk.new w _ _).cell 1⟩)
  have hbs := (unhide HW).2.1
  have HC := hide (And.intro (unhide HW).2.2.1 (unhide HW).2.2.2)
  have hMb : FoM wb B n len pn ps f D := hM.below ((unhide HW).1.mono hB)
  have HL := hide (And.intro hN (show GTx wb B p L ∧ B ≤ wb.heap.size from ⟨hL.below ((unhide HW).1.mono hB), by omega⟩))
  have HSY := hide (fun (W : World) (h : Below wb.heap.size wb W) (k : Nat) (hk : k < n + 8) => psay_any W B n len k cn cs pn ps f D y hf hk hlen (hMb.below (h.mono (by omega))) (by have := h.size; omega) hy)
  clear hM hB hf hy hMb hL hN
  go_enter Tryd.func20, Tryd.ntmps20
  go_wp2
  clear hwb
  go_loopw [5, 10] (fun u i wr => ∃ k : Nat, k ≤ N ∧ i = .int .i64 (k : Int) ∧ Hid (wr.ownsRow wb.heap.size 9 1 u k (filL n len y L k) ∧ Below wb.heap.size wb wr)) (fun _ i _ => N - (intOf i).toNat)
  case atStart => exact ⟨0, by omega, rfl, hide ⟨World.ownsRow_nil _ _ _ _, Below.refl _ _⟩⟩
  case round =>
  obtain ⟨k, hk, rfl, HK⟩ := hrel
  obtain ⟨wk, rfl⟩ : ∃ q, q = wr := ⟨_, rfl⟩
  obtain ⟨pu, cu, rfl, _⟩ := gr_form (unhide HK).1
  have hks := (unhide HK).2.size
  by_cases hkn : k < N
  case neg =>
    obtain rfl : k = N := by omega
    have hkn' : ¬ (k : Int) < (k : Int) := by omega
    have HE := hide (show FilQ w k n len y L (.returned (.slice pu k cu)) wk from ⟨pu, cu, rfl, gr_mono (unhide HK).1 (by omega), (unhide HW).1.trans ((unhide HK).2.mono (by omega))⟩)
    go_wp2
    go_ret
    exact unhide HE
  have hkn' : (k : Int) < (N : Int) := by omega
  obtain ⟨g, o, rfl, hg, hc0⟩ := (unhide HL).2.1 k (by rw [(unhide HL).1]; exact hkn)
  have hck : wk.cell? ⟨g, o + k, none⟩ = some (.string (L.getD k ByteArray.empty)) := ((unhide HK).2.cell (p := ⟨g, o + k, none⟩) (Nat.lt_of_lt_of_le hg (unhide HL).2.2)).trans hc0
  have HF := hide (show filT n len y L k = if (L.getD k ByteArray.empty).size = 0 then sayT n len k y else L.getD k ByteArray.empty from rfl)
  obtain ⟨S, hS⟩ : ∃ q, L.getD k ByteArray.empty = q := ⟨_, rfl⟩
  rw [hS] at hck HF
  clear hc0 hS
  by_cases hz : S.size = 0
  case pos =>
    obtain rfl : S = ⟨#[]⟩ := by
      cases S with
      | mk a =>
        have h : a = #[] := Array.eq_empty_of_size_eq_zero hz
        rw [h]
    have HFK := hide (show filT n len y L k = sayT n len k y from by rw [unhide HF, if_pos hz])
    have HS1 := hide (unhide HSY wk (unhide HK).2 k (by omega))
    have hcc0 : wk.cell? ⟨w.heap.size, 0, none⟩ = some (.slice pn n cn) := ((unhide HK).2.cell (p := ⟨w.heap.size, 0, none⟩) hbs).trans (unhide HC).1
    have hcc1 : wk.cell? ⟨w.heap.size, 1, none⟩ = some (.slice ps n cs) := ((unhide HK).2.cell (p := ⟨w.heap.size, 1, none⟩) hbs).trans (unhide HC).2
    clear hz HF
    go_wp2_with fail
    refine (unhide HS1).mono ?_
    rintro e w1 ⟨g1, c1, rfl, ho1, hb1⟩
    have hcv := gW_conv ho1
    have HB1 := hide (show Below wb.heap.size wb w1 from (unhide HK).2.trans (hb1.mono hks))
    have hs1 := hb1.size
    have hT : strOfNums (gL len (fun q => rK n (y q) (wt n k))) = filT n len y L k := by rw [unhide HFK]; rfl
    rw [hT] at hcv
    have HV := hide (filL_succ n len y L k)
    obtain ⟨X, hX⟩ : ∃ q, filT n len y L k = q := ⟨_, rfl⟩
    rw [hX] at hcv HV
    have HO := hide (show (w1.alloc (.cells #[.string X] 9)).ownsRow wb.heap.size 9 1 (.slice pu k cu) k (filL n len y L k) from (owns_only (unhide HK).1 (Only.of_below (P := fun _ => False) hb1) (fun _ _ q => q)).alloc _)
    clear ho1 hb1 hT hX HFK HS1 HK
    go_wp2_with (refine wpList_append_lies _ rfl (.tmp 21) (.tmp 23) 22 rfl wb.heap.size 9 i0 (.string ⟨#[]⟩) 1 16 Tryd.underlying22 (unhide HI).1 (unhide HI).2.1 (unhide HI).2.2.1 (unhide HI).2.2.2 rfl (by decide) _ k _ rfl (unhide HO) ⟨w1.heap.size, 0, none⟩ 1 1 [.string X] rfl rfl (fun q u hu => gr_new w1 9 _ q u hu) (by simp [Value.oneCell']) (by decide) (by unfold maxLen; omega) (by omega) (by simp; omega) (w1.heap.size + 1) (by simp) ?_)
    intro g5 cap5 x5 ho5 hg5 _ _
    have HN := hide (show x5.ownsRow wb.heap.size 9 1 (.slice (some ⟨g5, 0, none⟩) (k + 1) cap5) (k + 1) (filL n len y L (k + 1)) ∧ Below wb.heap.size wb x5 from ⟨by rw [unhide HV]; exact ho5, ((unhide HB1).alloc (unhide HB1).size _).grown hg5 (by simp; omega) (fun q hq => ((unhide HO).lt q hq).1)⟩)
    clear ho5 hg5 HO HB1
    go_wp2
    go_roundw
    case rel => exact ⟨k + 1, by omega, by go_num, HN⟩
    case measure => simp [intOf] <;> omega
  have hem : (S.toList == (⟨#[]⟩ : ByteArray).toList) = false := str_ne (fun e => hz (by rw [e]; rfl))
  have hem2 : S.toList.isEmpty = false := by simpa using hem
  have HV := hide (show filL n len y L (k + 1) = filL n len y L k ++ [.string S] from by rw [filL_succ, unhide HF, if_neg hz])
  have HO := hide (show (wk.alloc (.cells #[.string S] 9)).ownsRow wb.heap.size 9 1 (.slice pu k cu) k (filL n len y L k) from (unhide HK).1.alloc _)
  have HB1 := hide (unhide HK).2
  have hgw : g < wk.heap.size := by have := (unhide HL).2.2; omega
  clear HK HF hz
  go_wp2_with (refine wpList_append_lies _ rfl (.tmp 21) (.tmp 23) 22 rfl wb.heap.size 9 i0 (.string ⟨#[]⟩) 1 16 Tryd.underlying22 (unhide HI).1 (unhide HI).2.1 (unhide HI).2.2.1 (unhide HI).2.2.2 rfl (by decide) _ k _ rfl (unhide HO) ⟨wk.heap.size, 0, none⟩ 1 1 [.string S] rfl rfl (fun q u hu => gr_new wk 9 _ q u hu) (by simp [Value.oneCell']) (by decide) (by unfold maxLen; omega) (by omega) (by simp; omega) (wk.heap.size + 1) (by simp) ?_)
  intro g5 cap5 x5 ho5 hg5 _ _
  have HN := hide (show x5.ownsRow wb.heap.size 9 1 (.slice (some ⟨g5, 0, none⟩) (k + 1) cap5) (k + 1) (filL n len y L (k + 1)) ∧ Below wb.heap.size wb x5 from ⟨by rw [unhide HV]; exact ho5, ((unhide HB1).alloc (unhide HB1).size _).grown hg5 (by simp; omega) (fun q hq => ((unhide HO).lt q hq).1)⟩)
  clear ho5 hg5 HO HB1
  go_wp2
  go_roundw
  case rel => exact ⟨k + 1, by omega, by go_num, HN⟩
  case measure => simp [intOf] <;> omega
end Go.Proofs.YtolblldpdgfkmaaDoor
