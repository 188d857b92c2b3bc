import Derived.Test.YtmnbfkehepccfaaGpf
import Derived.Laws.MakeOwn
namespace Go.Proofs.Ytmnbfkehepccfaa
open Go.RowKit
set_option maxRecDepth 100000
set_option maxHeartbeats 8000000 in
theorem psol_any (w : World) (Q : List (List Int)) (L : List Int) (B cq cl m n : Nat) (pq pl : Option Addr) (hm : Q.length = m) (hn : L.length = n) (hQ : GSq w B pq Q) (hL : GLs w B pl L) (hB : B ≤ w.heap.size) : Calls Try.prog 16 #[.slice pq m cq, .slice pl n cl] w (SolR w Q L) := by
  have HN := hide (neweq_any w Q L B cq cl m n pq pl hm hn hQ hL hB)
  have HL := hide hn
  clear hQ hL hB hm hn
  by_cases hok : slvOk Q L
  case neg =>
    have HOK := hide hok
    clear hok
    go_enter Try.func16, Try.ntmps16
    go_wp2_with fail
    refine (unhide HN).mono ?_
    rintro e w1 ⟨hb1, _, h2⟩
    obtain rfl := h2 (unhide HOK)
    have HE := hide (show SolR w Q L (.returned (.tuple #[.slice none 0 0, .int .i64 1])) w1 from ⟨fun q => absurd q (unhide HOK), fun _ => ⟨rfl, hb1⟩⟩)
    clear hb1 h2
    go_wp2
    go_ret2
    exact unhide HE
  have HOK := hide hok
  have hn24 : n ≤ 24 := by rw [← unhide HL]; exact hok.1
  clear hok
  obtain ⟨i0, hi, hz0, hz1, hz2⟩ := info_parts gr_int
  have HI := hide (And.intro hi (And.intro hz0 (And.intro hz1 hz2)))
  clear hi hz0 hz1 hz2
  go_enter Try.func16, Try.ntmps16
  go_wp2_with fail
  refine (unhide HN).mono ?_
  rintro e w1 ⟨hb1, h1, _⟩
  obtain ⟨pu, cu, v, rfl, hR⟩ := h1 (unhide HOK)
  rw [unhide HL] at hR ⊢
  have HS := hide (psolve_any w1 w.heap.size n cu pu v (slvA Q L) hn24 hR hb1.size)
  have HB1 := hide hb1
  clear hR hb1 h1 HN
  go_wp2_with fail
  refine (unhide HS).mono ?_
  rintro e w2 ⟨ok, C, hga, hb2, h3, h4⟩
  have HGA := hide hga
  have HB2 := hide (show Below w.heap.size w w2 from (unhide HB1).trans hb2)
  clear hga hb2 HS
  cases ok with
  | false =>
    obtain rfl := h4 rfl
    have HE := hide (show SolR w Q L (.returned (.tuple #[.slice none 0 0, .int .i64 184])) w2 from ⟨fun _ => by rw [unhide HL]; exact ⟨false, C, unhide HGA, .inr ⟨rfl, rfl⟩, unhide HB2⟩, fun q => absurd (unhide HOK) q⟩)
    clear h3 h4
    go_wp2
    go_ret2
    exact unhide HE
  | true =>
    obtain ⟨x, rfl, hx⟩ := h3 rfl
    obtain ⟨px, cx, rfl, _⟩ := gr_form hx
    have HX := hide hx
    obtain ⟨w3, hmk, hm1, hm2⟩ := run_make_own (P := Try.prog) w2 w2.heap.size 32 3 i0 (.int .i64 0) 1 Try.underlying32 (unhide HI).1 (unhide HI).2.1 (unhide HI).2.2.1 .i64 .i64 n (by rw [(unhide HI).2.2.2]; omega) (by unfold maxLen; omega) (Nat.le_refl _)
    have HM := hide (show w3.ownsRow w2.heap.size 3 1 (.slice (some ⟨w2.heap.size, 0, none⟩) 0 n) 0 (gV 0 (fun i => C i n)) ∧ Below w2.heap.size w2 w3 from ⟨hm1, (Below.refl _ _).grown hm2 (Nat.le_refl _) (fun q hq => by cases hq)⟩)
    clear h3 h4 hx hm1 hm2
    obtain ⟨b2, hb2⟩ : ∃ q, w2.heap.size = q := ⟨_, rfl⟩
    rw [hb2] at hmk HM
    have HBB := hide hb2
    clear hb2
    go_wp2
    go_loopw [10, 34] (fun u i wr => ∃ k : Nat, k ≤ n ∧ i = .int .i64 (k : Int) ∧ Hid (wr.ownsRow b2 3 1 u k (gV k (fun i => C i n)) ∧ Below b2 w2 wr)) (fun _ i _ => n - (intOf i).toNat)
    case atStart => exact ⟨0, by omega, rfl, HM⟩
    case round =>
    obtain ⟨k, hk, rfl, HK⟩ := hrel
    obtain ⟨wk, rfl⟩ : ∃ q, q = wr := ⟨_, rfl⟩
    obtain ⟨pr, cr, rfl, _⟩ := gr_form (unhide HK).1
    clear HM hmk
    have hks := (unhide HK).2.size
    rw [unhide HBB] at hks
    by_cases hkn : k < n
    case neg =>
      obtain rfl : k = n := by omega
      have hkn' : ¬ (k : Int) < (k : Int) := by omega
      have HE := hide (show SolR w Q L (.returned (.tuple #[.slice pr k cr, .int .i64 0])) wk from ⟨fun _ => by
        rw [unhide HL]
        have hbs := (unhide HB2).size
        rw [unhide HBB] at hbs
        exact ⟨true, C, unhide HGA, .inl ⟨rfl, _, rfl, gr_mono (unhide HK).1 hbs⟩, (unhide HB2).trans ((unhide HK).2.mono hbs)⟩, fun q => absurd (unhide HOK) q⟩)
      go_wp2
      go_ret2
      exact unhide HE
    have hkn' : (k : Int) < (n : Int) := by omega
    obtain ⟨gx, rfl, hcx0, _, _, hgx⟩ := gr_cell (unhide HX) k hkn
    rw [gW_at _ hkn] at hcx0
    have hcx : wk.cell? ⟨gx, k, none⟩ = some (.int .u8 ((C k n).v : Int)) := ((unhide HK).2.cell (p := ⟨gx, k, none⟩) (by show gx < b2; rw [← unhide HBB]; exact hgx)).trans hcx0
    have HV := hide (gV_succ k (fun i => C i n))
    obtain ⟨y, hy⟩ : ∃ q, (C k n).v = q := ⟨_, rfl⟩
    rw [hy] at hcx HV
    have HO := hide (show (wk.alloc (.cells #[.int .i64 (y : Int)] 3)).ownsRow b2 3 1 (.slice pr k cr) k (gV k (fun i => C i n)) from (unhide HK).1.alloc _)
    have HB := hide (unhide HK).2
    have hyl : y < 256 := by rw [← hy]; exact (C k n).h
    clear hy hcx0 hgx HK
    go_wp2_with (refine wpList_append_lies _ rfl (.tmp 38) (.tmp 41) 32 rfl b2 3 i0 (.int .i64 0) 1 8 Try.underlying32 (unhide HI).1 (unhide HI).2.1 (unhide HI).2.2.1 (unhide HI).2.2.2 rfl (by decide) _ k _ rfl (unhide HO) ⟨wk.heap.size, 0, none⟩ 1 1 [.int .i64 (y : Int)] rfl rfl (fun q u hu => gr_new wk 3 _ q u hu) (by simp [Value.oneCell']) (by decide) (by unfold maxLen; omega) (by omega) (by simp; omega) (wk.heap.size + 1) (by simp) ?_)
    intro g5 cap5 x5 ho5 hg5 hgg hgl
    have HN := hide (show x5.ownsRow b2 3 1 (.slice (some ⟨g5, 0, none⟩) (k + 1) cap5) (k + 1) (gV (k + 1) (fun i => C i n)) ∧ Below b2 w2 x5 from ⟨by rw [unhide HV]; exact ho5, ((unhide HB).alloc (by omega) _).grown hg5 (by simp; omega) (fun q hq => ((unhide HO).lt q hq).1)⟩)
    clear ho5 hg5 hgg hgl HO HB
    go_wp2
    go_roundw
    case rel => exact ⟨k + 1, by omega, by go_num, HN⟩
    case measure => simp [intOf] <;> omega
end Go.Proofs.Ytmnbfkehepccfaa
