import Derived.Test.YtmnbfkehepccfaaGpe
import Derived.Test.YtmnbfkehepccfaaGrf
namespace Go.Proofs.Ytmnbfkehepccfaa
open Go.RowKit
set_option maxRecDepth 100000
theorem gr_brow : (Try.prog.info? 53).map (fun i => (i.zero, i.size, i.bytes)) = some (some (.slice none 0 0), 1, 24) := by kernel_rfl
/-- what newEquations answers -/
def NeQ (w : World) (Q : List (List Int)) (L : List Int) (e : Ending) (w' : World) : Prop := Below w.heap.size w w' ∧ (slvOk Q L → ∃ pu cu v, e = .returned (.tuple #[.slice pu L.length cu, .int .i64 0]) ∧ RR w.heap.size 53 5 w' (.slice pu L.length cu) L.length v (fun i => gW (L.length + 1) (slvA Q L i))) ∧ (¬ slvOk Q L → e = .returned (.tuple #[.slice none 0 0, .int .i64 1]))
theorem slvA_lt (Q : List (List Int)) (L : List Int) (i k : Nat) (hk : k < (Q.getD i []).length) : slvA Q L i k = gN ((Q.getD i []).getD k 0).toNat := by
  unfold slvA
  rw [List.getD_eq_getElem?_getD, List.getElem?_append_left hk, ← List.getD_eq_getElem?_getD]
theorem slvA_last (Q : List (List Int)) (L : List Int) (i k : Nat) (hk : k = (Q.getD i []).length) : slvA Q L i k = gN (L.getD i 0).toNat := by
  unfold slvA
  rw [List.getD_eq_getElem?_getD, List.getElem?_append_right (by omega), hk, Nat.sub_self]
  rfl
theorem row_ok (R : List Int) (x : Int) (n : Nat) (hR : R.length = n) (h1 : ∀ j, j < n → 0 ≤ R.getD j 0 ∧ R.getD j 0 < 256) (h2 : 0 ≤ x ∧ x < 256) : ∀ k, k ≤ n → 0 ≤ (R ++ [x]).getD k 0 ∧ (R ++ [x]).getD k 0 < 256 := by
  intro k hk
  by_cases e : k < n
  · rw [List.getD_eq_getElem?_getD, List.getElem?_append_left (by omega), ← List.getD_eq_getElem?_getD]
    exact h1 k e
  · obtain rfl : k = n := by omega
    rw [List.getD_eq_getElem?_getD, List.getElem?_append_right (by omega), hR, Nat.sub_self]
    exact h2
theorem row_bad (R : List Int) (x : Int) (n j : Nat) (hR : R.length = n) (hj : j < n) : (R ++ [x]).getD j 0 = R.getD j 0 := by
  rw [List.getD_eq_getElem?_getD, List.getElem?_append_left (by omega), ← List.getD_eq_getElem?_getD]
theorem row_last (R : List Int) (x : Int) (n : Nat) (hR : R.length = n) : (R ++ [x]).getD n 0 = x := by
  rw [List.getD_eq_getElem?_getD, List.getElem?_append_right (by omega), hR, Nat.sub_self]
  rfl
theorem gN_v (x : Int) (h1 : 0 ≤ x) (h2 : x < 256) : (((gN x.toNat).v : Nat) : Int) = x := by
  show ((x.toNat % 256 : Nat) : Int) = x
  omega
set_option maxHeartbeats 16000000 in
theorem neweq_any (w : World) (Q : List (List Int)) (L : List Int) (B cq cl m n : Nat) (pq pl : Option Addr) (hm : Q.length = m) (hn : L.length = n) (hQ : GSq w B pq Q) (hL : GLs w B pl L) (hB : B ≤ w.heap.size) : Calls Try.prog 28 #[.slice pq m cq, .slice pl n cl] w (NeQ w Q L) := by
  by_cases h1 : 24 < n
  · have h1' : (24 : Int) < (n : Int) := by omega
    have HE := hide (show NeQ w Q L (.returned (.tuple #[.slice none 0 0, .int .i64 1])) w from ⟨Below.refl _ _, fun q => absurd q.1 (by omega), fun _ => rfl⟩)
    clear hQ hL
    go_enter Try.func28, Try.ntmps28
    go_wp2
    go_ret2
    exact unhide HE
  have h1' : ¬ (24 : Int) < (n : Int) := by omega
  by_cases h2 : m = n
  case neg =>
    have h2' : ((m : Int) != (n : Int)) = true := by simp; omega
    have HE := hide (show NeQ w Q L (.returned (.tuple #[.slice none 0 0, .int .i64 1])) w from ⟨Below.refl _ _, fun q => absurd q.2.1 (by omega), fun _ => rfl⟩)
    clear hQ hL
    go_enter Try.func28, Try.ntmps28
    go_wp2
    go_ret2
    exact unhide HE
  subst h2
  have h2' : ((m : Int) != (m : Int)) = false := by simp
  obtain ⟨i0, hi, hz0, hz1, hz2⟩ := info_parts info5
  have HI := hide (And.intro hi (And.intro hz0 (And.intro hz1 hz2)))
  clear hi hz0 hz1 hz2
  obtain ⟨i9, hi, hz0, hz1, hz2⟩ := info_parts gr_brow
  have HJ := hide (And.intro hi (And.intro hz0 (And.intro hz1 hz2)))
  clear hi hz0 hz1 hz2
  have HS := hide (And.intro hQ (And.intro hL hB))
  have HL := hide (And.intro hm hn)
  clear hQ hL hB hm hn
  go_enter Try.func28, Try.ntmps28
  obtain ⟨n, hn⟩ : ∃ q, q = m := ⟨_, rfl⟩
  rw [← hn] at h1 h1' h2' HL ⊢
  clear hn m
  go_wp2
  go_loopw [6, 24] (fun u i wx => ∃ (k : Nat) (vx : Nat → Value), k ≤ n ∧ i = .int .i64 (k : Int) ∧ Hid (RR w.heap.size 53 5 wx u k vx (fun i => gW (n + 1) (slvA Q L i)) ∧ Below w.heap.size w wx ∧ ∀ i, i < k → (Q.getD i []).length = n ∧ ∀ q, q ≤ n → 0 ≤ (Q.getD i [] ++ [L.getD i 0]).getD q 0 ∧ (Q.getD i [] ++ [L.getD i 0]).getD q 0 < 256)) (fun _ i _ => n - (intOf i).toNat)
  case atStart => exact ⟨0, fun _ => .slice none 0 0, by omega, rfl, hide ⟨RR.new _ _ _ _ _ _, Below.refl _ _, fun i hi => absurd hi (by omega)⟩⟩
  case round =>
    obtain ⟨k, vx, hk, rfl, HR⟩ := hrel
    obtain ⟨wk, rfl⟩ : ∃ q, q = wr := ⟨_, rfl⟩
    obtain ⟨pu, cu, rfl, _⟩ := gr_form (unhide HR).1.row
    by_cases hkn : k < n
    case neg =>
      obtain rfl : k = n := by omega
      have hkn' : ¬ (k : Int) < (k : Int) := by omega
      have HE := hide (show NeQ w Q L (.returned (.tuple #[.slice pu k cu, .int .i64 0])) wk from ⟨(unhide HR).2.1, fun _ => ⟨pu, cu, vx, by rw [(unhide HL).2], by rw [(unhide HL).2]; exact (unhide HR).1⟩, fun q => absurd (show slvOk Q L from ⟨by rw [(unhide HL).2]; omega, by rw [(unhide HL).1, (unhide HL).2], fun i hi => by
        rw [(unhide HL).2] at hi ⊢
        exact (unhide HR).2.2 i hi⟩) q⟩)
      go_wp2
      go_ret2
      exact unhide HE
    have hkn' : (k : Int) < (n : Int) := by omega
    have hbw := (unhide HR).2.1
    have hbs := hbw.size
    have HSk := hide (show GSq wk B pq Q ∧ GLs wk B pl L ∧ B ≤ wk.heap.size from ⟨(unhide HS).1.below (hbw.mono (unhide HS).2.2), (unhide HS).2.1.below (hbw.mono (unhide HS).2.2), Nat.le_trans (unhide HS).2.2 hbs⟩)
    obtain ⟨gq, oq, qk, ck, rfl, hgq, hcq, hqn, hgl⟩ := (unhide HSk).1 k (by rw [(unhide HL).1]; exact hkn)
    obtain ⟨gl, ol, rfl, hgl2, hcl⟩ := (unhide HSk).2.1 k (by rw [(unhide HL).2]; exact hkn)
    obtain ⟨R, hR⟩ : ∃ R, Q.getD k [] = R := ⟨_, rfl⟩
    obtain ⟨x, hx⟩ : ∃ x, L.getD k 0 = x := ⟨_, rfl⟩
    rw [hR] at hcq hqn hgl
    rw [hx] at hcl
    have HRX := hide (And.intro hR hx)
    obtain ⟨m, hm⟩ : ∃ q, R.length = q := ⟨_, rfl⟩
    rw [hm] at hcq hqn
    have HSRC := hide (And.intro hm hgl)
    have hBk := (unhide HSk).2.2
    clear hR hx hm hqn hgl hbw
    by_cases hmn : m = n
    case neg =>
      have hmn' : ((m : Int) != (n : Int)) = true := by simp; omega
      have HE := hide (show NeQ w Q L (.returned (.tuple #[.slice none 0 0, .int .i64 1])) wk from ⟨(unhide HR).2.1, fun q => absurd (q.2.2 k (by rw [(unhide HL).2]; exact hkn)).1 (by rw [(unhide HRX).1, (unhide HSRC).1, (unhide HL).2]; exact hmn), fun _ => rfl⟩)
      go_wp2
      go_ret2
      exact unhide HE
    subst hmn
    have hmn' : ((m : Int) != (m : Int)) = false := by simp
    have hmk : (Instr.makeSlice 53 (.int .i64 0) (.int .i64 ((m : Int) + 1))).run Try.prog wk = .ok (.slice (some ⟨wk.heap.size, 0, none⟩) 0 (m + 1)) (wk.alloc (.cells ((List.replicate (m + 1) (0 : Int)).map (Value.int .u8)).toArray 5)) := by
      have h := run_make_u8 0 (m + 1) (by omega) (by omega) wk
      rw [show ((m : Int) + 1) = ((m + 1 : Nat) : Int) by omega]
      exact h
    obtain ⟨w0, hw0⟩ : ∃ q, wk.alloc (.cells ((List.replicate (m + 1) (0 : Int)).map (Value.int .u8)).toArray 5) = q := ⟨_, rfl⟩
    have HO0 := hide (show w0.ownsRow wk.heap.size 5 1 (.slice (some ⟨wk.heap.size, 0, none⟩) 0 (m + 1)) 0 (gW 0 (slvA Q L k)) ∧ Below wk.heap.size wk w0 from by
      subst hw0
      exact ⟨own_made wk wk.heap.size 0 (m + 1) (by omega) (by unfold maxLen; omega) (Nat.le_refl _), (Below.refl _ _).alloc (Nat.le_refl _) _⟩)
    rw [hw0] at hmk
    clear hw0
    have hgqk : gq < wk.heap.size := by omega
    have hglk : gl < wk.heap.size := by omega
    obtain ⟨bk, hbk⟩ : ∃ q, wk.heap.size = q := ⟨_, rfl⟩
    rw [hbk] at hmk HO0 hgqk hglk
    have HBK := hide hbk
    clear hbk
    go_wp2
    go_loopw [9, 40] (fun u i wx => ∃ j : Nat, j ≤ m ∧ i = .int .i64 (j : Int) ∧ Hid (wx.ownsRow bk 5 1 u j (gW j (slvA Q L k)) ∧ Below bk wk wx ∧ ∀ q, q < j → 0 ≤ R.getD q 0 ∧ R.getD q 0 < 256)) (fun _ i _ => m - (intOf i).toNat)
    case atStart => exact ⟨0, by omega, rfl, hide ⟨(unhide HO0).1, (unhide HO0).2, fun q hq => absurd hq (by omega)⟩⟩
    case round =>
    obtain ⟨j, hj, rfl, HA⟩ := hrel
    obtain ⟨wj, rfl⟩ : ∃ q, q = wr := ⟨_, rfl⟩
    obtain ⟨pr, cr, rfl, _⟩ := gr_form (unhide HA).1
    have hjs := (unhide HA).2.1.size
    rw [unhide HBK] at hjs
    clear HO0 hmk
    by_cases hjm : j < m
    case pos =>
      have hjm' : (j : Int) < (m : Int) := by omega
      obtain ⟨ge, oe, rfl, hge, hce0⟩ := (unhide HSRC).2 j (by rw [(unhide HSRC).1]; exact hjm)
      have hce : wj.cell? ⟨ge, oe + j, none⟩ = some (.int .i64 (R.getD j 0)) := ((unhide HA).2.1.cell (p := ⟨ge, oe + j, none⟩) (by show ge < bk; rw [← unhide HBK]; omega)).trans hce0
      have HEL := hide (pelem_any (R.getD j 0) wj)
      have HSL := hide (show slvA Q L k j = gN (R.getD j 0).toNat from by rw [slvA_lt Q L k j (by rw [(unhide HRX).1, (unhide HSRC).1]; exact hjm), (unhide HRX).1])
      by_cases hin : 0 ≤ R.getD j 0 ∧ R.getD j 0 < 256
      case neg =>
        rw [decide_eq_false hin] at HEL
        have HE := hide (show NeQ w Q L (.returned (.tuple #[.slice none 0 0, .int .i64 1])) wj from ⟨(unhide HR).2.1.trans (((unhide HA).2.1).mono (by rw [← unhide HBK]; exact hbs)), fun z => absurd ((z.2.2 k (by rw [(unhide HL).2]; exact hkn)).2 j (by rw [(unhide HL).2]; omega)) (by rw [(unhide HRX).1, row_bad R _ m j (unhide HSRC).1 hjm]; exact hin), fun _ => rfl⟩)
        obtain ⟨sq, hsq⟩ : ∃ z, R.getD j 0 = z := ⟨_, rfl⟩
        rw [hsq] at hce HEL
        clear hin hsq HA hce0 HSL
        go_wp2_with fail
        refine (unhide HEL).mono ?_
        rintro e w' ⟨rfl, hw'⟩
        subst w'
        go_wp2
        go_ret2
        exact unhide HE
      rw [decide_eq_true hin] at HEL
      have HA2 := hide (show ∀ q, q < j + 1 → 0 ≤ R.getD q 0 ∧ R.getD q 0 < 256 from fun q hq => by
        by_cases e : q = j
        · rw [e]; exact hin
        · exact (unhide HA).2.2 q (by omega))
      obtain ⟨sq, hsq⟩ : ∃ z, R.getD j 0 = z := ⟨_, rfl⟩
      rw [hsq] at hce HEL HSL hin
      have hmod : sq % 256 = sq := by omega
      have HV := hide (show gW (j + 1) (slvA Q L k) = gW j (slvA Q L k) ++ [.int .u8 sq] from by rw [gW_succ, unhide HSL, gN_v sq hin.1 hin.2])
      have HO := hide (show (wj.alloc (.cells #[.int .u8 sq] 5)).ownsRow bk 5 1 (.slice pr j cr) j (gW j (slvA Q L k)) from (unhide HA).1.alloc _)
      have HB := hide (unhide HA).2.1
      clear hin hsq HA hce0 HSL
      go_wp2_with fail
      refine (unhide HEL).mono ?_
      rintro e w' ⟨rfl, hw'⟩
      subst w'
      go_wp2_with (refine wpList_append_lies _ rfl (.tmp 47) (.tmp 50) 53 rfl bk 5 i0 (.int .u8 0) 1 1 Try.underlying53 (unhide HI).1 (unhide HI).2.1 (unhide HI).2.2.1 (unhide HI).2.2.2 rfl (by decide) _ j _ rfl (unhide HO) ⟨wj.heap.size, 0, none⟩ 1 1 [.int .u8 sq] rfl rfl (fun q u hu => gr_new wj 5 _ q u hu) (by simp [Value.oneCell']) (by decide) (by unfold maxLen; omega) (by omega) (by simp; omega) (wj.heap.size + 1) (by simp) ?_)
      intro g5 cap5 x5 ho5 hg5 hgg hgl
      have HN := hide (show x5.ownsRow bk 5 1 (.slice (some ⟨g5, 0, none⟩) (j + 1) cap5) (j + 1) (gW (j + 1) (slvA Q L k)) ∧ Below bk wk x5 ∧ ∀ q, q < j + 1 → 0 ≤ R.getD q 0 ∧ R.getD q 0 < 256 from ⟨by rw [unhide HV]; exact ho5, ((unhide HB).alloc (by omega) _).grown hg5 (by simp; omega) (fun q hq => ((unhide HO).lt q hq).1), unhide HA2⟩)
      clear ho5 hg5 hgg hgl HO HB
      go_wp2
      go_roundw
      case rel => exact ⟨j + 1, by omega, by go_num, HN⟩
      case measure => simp [intOf] <;> omega
    obtain rfl : j = m := by omega
    have hjm' : ¬ (j : Int) < (j : Int) := by omega
    have hcl1 : wj.cell? ⟨gl, ol + k, none⟩ = some (.int .i64 x) := ((unhide HA).2.1.cell (p := ⟨gl, ol + k, none⟩) hglk).trans hcl
    have HEL := hide (pelem_any x wj)
    by_cases hin : 0 ≤ x ∧ x < 256
    case neg =>
      rw [decide_eq_false hin] at HEL
      have HE := hide (show NeQ w Q L (.returned (.tuple #[.slice none 0 0, .int .i64 1])) wj from ⟨(unhide HR).2.1.trans (((unhide HA).2.1).mono (by rw [← unhide HBK]; exact hbs)), fun z => absurd ((z.2.2 k (by rw [(unhide HL).2]; exact hkn)).2 j (by rw [(unhide HL).2]; omega)) (by rw [(unhide HRX).1, (unhide HRX).2, row_last R _ j (unhide HSRC).1]; exact hin), fun _ => rfl⟩)
      clear hin HA
      go_wp2_with fail
      refine (unhide HEL).mono ?_
      rintro e w' ⟨rfl, hw'⟩
      subst w'
      go_wp2
      go_ret2
      exact unhide HE
    rw [decide_eq_true hin] at HEL
    have hmod : x % 256 = x := by omega
    have HV := hide (show gW (j + 1) (slvA Q L k) = gW j (slvA Q L k) ++ [.int .u8 x] from by rw [gW_succ, slvA_last Q L k j (by rw [(unhide HRX).1, (unhide HSRC).1]), (unhide HRX).2, gN_v x hin.1 hin.2])
    have HOK := hide (show ∀ i, i < k + 1 → (Q.getD i []).length = j ∧ ∀ q, q ≤ j → 0 ≤ (Q.getD i [] ++ [L.getD i 0]).getD q 0 ∧ (Q.getD i [] ++ [L.getD i 0]).getD q 0 < 256 from fun i hi => by
      by_cases e : i = k
      · rw [e, (unhide HRX).1, (unhide HRX).2]
        exact ⟨(unhide HSRC).1, row_ok R x j (unhide HSRC).1 (unhide HA).2.2 hin⟩
      · exact (unhide HR).2.2 i (by omega))
    have HO := hide (show (wj.alloc (.cells #[.int .u8 x] 5)).ownsRow bk 5 1 (.slice pr j cr) j (gW j (slvA Q L k)) from (unhide HA).1.alloc _)
    have HB := hide (unhide HA).2.1
    have HRb := hide (show RR w.heap.size 53 5 wk (.slice pu k cu) k vx (fun i => gW (j + 1) (slvA Q L i)) ∧ Below w.heap.size w wk from ⟨(unhide HR).1, (unhide HR).2.1⟩)
    clear hin HA HR
    go_wp2_with fail
    refine (unhide HEL).mono ?_
    rintro e w' ⟨rfl, hw'⟩
    subst w'
    go_wp2_with (refine wpList_append_lies _ rfl (.tmp 60) (.tmp 66) 53 rfl bk 5 i0 (.int .u8 0) 1 1 Try.underlying53 (unhide HI).1 (unhide HI).2.1 (unhide HI).2.2.1 (unhide HI).2.2.2 rfl (by decide) _ j _ rfl (unhide HO) ⟨wj.heap.size, 0, none⟩ 1 1 [.int .u8 x] rfl rfl (fun q u hu => gr_new wj 5 _ q u hu) (by simp [Value.oneCell']) (by decide) (by unfold maxLen; omega) (by omega) (by simp; omega) (wj.heap.size + 1) (by simp) ?_)
    intro g2 c2 w2 ho2 hg2 _ _
    have hbw2 : Below bk wk w2 := ((unhide HB).alloc (by omega) _).grown hg2 (by simp; omega) (fun q hq => ((unhide HO).lt q hq).1)
    have HD := hide (show w2.ownsRow bk 5 1 (.slice (some ⟨g2, 0, none⟩) (j + 1) c2) (j + 1) (gW (j + 1) (slvA Q L k)) from by rw [unhide HV]; exact ho2)
    have HB2 := hide (show Below wk.heap.size wk w2 from by rw [unhide HBK]; exact hbw2)
    have HR2 := hide ((((unhide HRb).1.below (unhide HB2)).congrV (x := fun i => if i = k then .slice (some ⟨g2, 0, none⟩) (j + 1) c2 else vx i) (fun i hi => by rw [if_neg (by omega)])).below ((Below.refl _ w2).alloc (Nat.le_refl _) (.cells #[.slice (some ⟨g2, 0, none⟩) (j + 1) c2] 53)))
    have HRO := hide (unhide HR2).row
    have hb2s := (unhide HB2).size
    clear ho2 hg2 hbw2 HO HB
    go_wp2_with (refine wpList_append_lies _ rfl (.tmp 59) (.tmp 68) 50 rfl w.heap.size 53 i9 (.slice none 0 0) 1 24 Try.underlying50 (unhide HJ).1 (unhide HJ).2.1 (unhide HJ).2.2.1 (unhide HJ).2.2.2 rfl (by decide) _ k _ rfl (unhide HRO) ⟨w2.heap.size, 0, none⟩ 1 1 [.slice (some ⟨g2, 0, none⟩) (j + 1) c2] rfl rfl (fun q u hu => gr_new w2 53 _ q u hu) (by simp [Value.oneCell']) (by decide) (by unfold maxLen; omega) (by omega) (by simp; omega) (w2.heap.size + 1) (by simp) ?_)
    intro g3 c3 w3 ho3 hg3 _ _
    have HN := hide (show RR w.heap.size 53 5 w3 (.slice (some ⟨g3, 0, none⟩) (k + 1) c3) (k + 1) (fun i => if i = k then .slice (some ⟨g2, 0, none⟩) (j + 1) c2 else vx i) (fun i => gW (j + 1) (slvA Q L i)) ∧ Below w.heap.size w w3 ∧ ∀ i, i < k + 1 → (Q.getD i []).length = j ∧ ∀ q, q ≤ j → 0 ≤ (Q.getD i [] ++ [L.getD i 0]).getD q 0 ∧ (Q.getD i [] ++ [L.getD i 0]).getD q 0 < 256 from by
      have hwb : Below w.heap.size w w2 := (unhide HRb).2.trans ((unhide HB2).mono hbs)
      refine ⟨(unhide HR2).push (by decide) (.slice (some ⟨g2, 0, none⟩) (j + 1) c2) (gW (j + 1) (slvA Q L k)) ?_ ?_ (by simp) rfl ho3 hg3, (hwb.alloc hwb.size _).grown hg3 (by have := hwb.size; simp; omega) (fun q hq => ((unhide HRO).lt q hq).1), unhide HOK⟩
      · rw [gW_len]
        exact gr_mono ((unhide HD).alloc _) (by rw [← unhide HBK]; exact hbs)
      · intro i hi y hy q
        rw [if_neg (by omega)] at hy
        have h1 := (((unhide HRb).1.own i hi).lt y hy).2
        have h2 := ((unhide HD).lt y q).1
        rw [← unhide HBK] at h2
        omega)
    clear ho3 hg3 HR2 HRO HD HB2 HRb HOK
    go_wp2
    go_roundw
    case rel => exact ⟨k + 1, _, by omega, by go_num, HN⟩
    case measure => simp [intOf] <;> omega
end Go.Proofs.Ytmnbfkehepccfaa
