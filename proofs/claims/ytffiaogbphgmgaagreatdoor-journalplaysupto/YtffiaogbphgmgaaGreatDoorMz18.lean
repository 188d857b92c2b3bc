import Derived.Test.YtffiaogbphgmgaaGreatDoorMz13
import Derived.Test.YtffiaogbphgmgaaGreatDoorMz14
import Derived.Test.YtffiaogbphgmgaaGreatDoorMz17
import Derived.Deep.DeepCutAuto
import Derived.Test.YtffiaogbphgmgaaGreatDoorMz04
import Derived.Test.YtffiaogbphgmgaaGreatDoorMz11
namespace Go.Proofs.YtffiaogbphgmgaaGreatDoor
open Go.RowKit
set_option maxRecDepth 100000
set_option maxHeartbeats 2000000 in
theorem rvalue_any (s : ByteArray) (hs : s.size = 4) (w : World) : Calls Tryz.prog 107 #[.string s] w fun e w' => e = .returned (.int .i64 (beN (nums s))) ∧ w' = w := by
  have HIX := hide (fun (i : Nat) (hi : i < 4) (W : World) => index_str s i (by omega) W)
  have HFIN := hide (show beN ((nums s).take 4) = beN (nums s) from by rw [List.take_of_length_le (by rw [nums_len]; omega)])
  have HNL := hide (show (nums s).length = 4 from by rw [nums_len, hs])
  have hsB : (s.size : Int) = 4 := by omega
  clear hs
  go_enter Tryz.func107, Tryz.ntmps107
  go_wp2
  go_loopw [3, 4] (fun n i wr => ∃ k : Nat, k ≤ 4 ∧ i = .int .i64 (k : Int) ∧ n = .int .i64 (beN ((nums s).take k)) ∧ wr = w) (fun _ i _ => 4 - (intOf i).toNat)
  case atStart => exact ⟨0, by omega, rfl, rfl, rfl⟩
  case round =>
    obtain ⟨k, hk, rfl, rfl, hwr⟩ := hrel
    subst wr
    by_cases hk4 : k < 4
    · have hmb := be_bound (nums s) (nums_bytes s) k
      have hp : (256 : Int) ^ k ≤ 256 ^ 3 := by
        have h1 : (256 : Nat) ^ k ≤ 256 ^ 3 := Nat.pow_le_pow_right (by decide) (by omega)
        exact_mod_cast h1
      have h3 : (256 : Int) ^ 3 = 16777216 := by decide
      obtain ⟨M, hM⟩ := Int.eq_ofNat_of_zero_le hmb.1
      have hMl : M < 16777216 := by omega
      have hix := unhide HIX k hk4
      have hdb := nums_bytes s k
      obtain ⟨d, hd⟩ := Int.eq_ofNat_of_zero_le hdb.1
      rw [hd] at hix
      have hdl : d < 256 := by omega
      have HST := hide (show beN ((nums s).take (k + 1)) = 256 * (M : Int) + (d : Int) by rw [be_take _ _ (by rw [unhide HNL]; exact hk4), hM, hd])
      rw [hM]
      have w0 : IntKind.i64.wrap (d : Int) = (d : Int) := wrapI_eq _ (by omega) (by omega)
      have w1 : IntKind.i64.wrap (256 * (M : Int)) = 256 * (M : Int) := wrapI_eq _ (by omega) (by omega)
      have w2 : IntKind.i64.wrap (256 * (M : Int) + (d : Int)) = 256 * (M : Int) + (d : Int) := wrapI_eq _ (by omega) (by omega)
      have k4 : (k : Int) < 4 := by omega
      have k0 : (0 : Int) ≤ (k : Int) := by omega
      clear hmb hp h3 hM hdb hd
      go_wp2
      go_roundw
      case rel => exact ⟨k + 1, by omega, by go_num, by rw [unhide HST], by first | rfl | trivial⟩
      case measure => simp [intOf]; omega
    · have k4 : ¬ (k : Int) < 4 := by omega
      obtain ⟨V, hV⟩ : ∃ V, beN ((nums s).take k) = V := ⟨_, rfl⟩
      rw [hV]
      have HV := hide (show V = beN (nums s) from by rw [← hV, show k = 4 by omega]; exact unhide HFIN)
      clear hV
      go_wp2
      go_ret
      exact ⟨by rw [unhide HV]; rfl, rfl⟩
def TgQ (s : ByteArray) (size : Int) (w : World) (e : Ending) (w' : World) : Prop :=
  ((tgD s size = none ∧ e = .returned (.tuple #[.slice none 0 0, .bool false])) ∨ (∃ l p c, tgD s size = some l ∧ e = .returned (.tuple #[.slice p l.length c, .bool true]) ∧ w'.ownsRow w.heap.size 3 1 (.slice p l.length c) l.length (l.map (Value.int .i64)))) ∧ Below w.heap.size w w'
theorem tv_sub (s : ByteArray) (k : Nat) (h : 5 + 4 * k ≤ s.size) : beN (nums (s.extract (1 + 4 * k) (5 + 4 * k))) = tv s k ∧ (s.extract (1 + 4 * k) (5 + 4 * k)).size = 4 := by
  refine ⟨?_, by simp; omega⟩
  rw [nums_extract, tv, List.drop_take, show 5 + 4 * k - (1 + 4 * k) = 4 by omega]
theorem tv_bound (s : ByteArray) (k : Nat) : 0 ≤ tv s k ∧ tv s k < 4294967296 := by
  have hB : Bytes ((nums s).drop (1 + 4 * k)) := Bytes.of_mem (fun x hx => (nums_bytes s).mem (List.mem_of_mem_drop hx))
  have := be_bound _ hB 4
  rw [show (256 : Int) ^ 4 = 4294967296 from by decide] at this
  exact this
structure TgI (s : ByteArray) (size : Int) (w : World) (k : Nat) (l : List Int) (v : Value) (wr : World) : Prop where
  row : wr.ownsRow w.heap.size 3 1 v k (l.map (Value.int .i64))
  len : l.length = k
  eq : tgF s size 16 0 [] = tgF s size (16 - k) k l
  bel : Below w.heap.size w wr
theorem infoI3t : (Tryz.prog.info? 3).map (fun i => (i.zero, i.size, i.bytes)) = some (some (.int .i64 0), 1, 8) := by kernel_rfl
theorem tg_one (s : ByteArray) (size : Int) (k : Nat) (hk : k < 16) (l : List Int) : tgF s size (16 - k) k l = if badP size l (tv s k) then none else tgF s size (16 - (k + 1)) (k + 1) (l ++ [tv s k]) := by
  rw [show 16 - k = (16 - (k + 1)) + 1 by omega, tgF]
theorem own_cellT {w : World} {base : Nat} {e : TypeId} {n c : Nat} {p : Option Addr} {xs : List Value} (h : w.ownsRow base e 1 (.slice p n c) n xs) (j : Nat) (hj : j < n) : ∃ g, p = some ⟨g, 0, none⟩ ∧ w.cell? ⟨g, j, none⟩ = xs[j]? ∧ w.frozen? ⟨g, j, none⟩ = false ∧ base ≤ g ∧ g < w.heap.size := by
  rcases h.2 with ⟨h1, h0⟩ | ⟨g, cap, cur, h1, hb, hg, hn, hc, hs, hx⟩
  · omega
  · have e0 : p = some ⟨g, 0, none⟩ := by injection h1
    have hB : Blk w g cur e := hg
    refine ⟨g, e0, ?_, hB.frozen j, hb, hB.lt⟩
    rw [hB.cell, ← hx, List.getElem?_take, if_pos (by omega)]
    simp
set_option maxHeartbeats 8000000 in
theorem rtargets_any (s : ByteArray) (size : Int) (w : World) : Calls Tryz.prog 76 #[.string s, .int .i64 size] w (TgQ s size w) := by
  by_cases h65 : s.size = 65
  · have hsB : (s.size : Int) = 65 := by omega
    have hsn : ((s.size : Int) != 65) = false := by rw [hsB]; rfl
    have hix := index_str s 0 (by omega)
    obtain ⟨d, hd⟩ := Int.eq_ofNat_of_zero_le (nums_bytes s 0).1
    rw [hd] at hix
    have hix0 : ∀ W : World, (Instr.index 9 (.string s) (.int .i64 0)).run Tryz.prog W = .ok (.int .u8 (d : Int)) W := hix
    clear hix
    by_cases h1 : d = 1
    · have HTD := hide (show tgD s size = tgF s size 16 0 [] from by rw [tgD, if_pos ⟨h65, by rw [hd, h1]; rfl⟩])
      have hd1 : ((d : Int) != 1) = false := by rw [h1]; rfl
      obtain ⟨i0, hi0, hz0, hz1, hz2⟩ := info_parts infoI3t
      have HII := hide (And.intro hi0 (And.intro hz0 (And.intro hz1 hz2)))
      have X0 := hide (show TgI s size w 0 [] (.slice none 0 0) w from ⟨World.ownsRow_nil _ _ _ _, rfl, rfl, Below.refl _ _⟩)
      have HSZ := hide h65
      clear hi0 hz0 hz1 hz2 hd h1 h65
      go_enter Tryz.func76, Tryz.ntmps76
      go_wp2
      clear hix0 hd1 hsn
      go_loopw [6, 7, 8, 9] (fun v i _ _ wr => ∃ (k : Nat) (l : List Int) (vv : Value), k ≤ 16 ∧ i = .int .i64 (k : Int) ∧ v = vv ∧ TgI s size w k l vv wr) (fun _ i _ _ _ => 16 - (intOf i).toNat)
      case atStart => exact ⟨0, [], _, by omega, rfl, rfl, unhide X0⟩
      case round =>
        obtain ⟨k, l, vv, hk, rfl, rfl, hI⟩ := hrel
        obtain ⟨wo, rfl⟩ : ∃ W, W = wr := ⟨_, rfl⟩
        have HI := hide hI
        obtain ⟨pv, cv, hvv, -⟩ := row_form hI.row
        subst hvv
        clear hI X0
        by_cases hk16 : k < 16
        · have k16 : (k : Int) < 16 := by omega
          obtain ⟨f4, hf4⟩ : ∃ z : Nat, 4 * k = z := ⟨_, rfl⟩
          obtain ⟨aa, haa⟩ : ∃ z : Nat, 1 + 4 * k = z := ⟨_, rfl⟩
          obtain ⟨bb, hbb⟩ : ∃ z : Nat, 5 + 4 * k = z := ⟨_, rfl⟩
          have w1 : IntKind.i64.wrap (4 * (k : Int)) = (f4 : Int) := by rw [wrapI_eq _ (by omega) (by omega)]; omega
          have w2 : IntKind.i64.wrap (1 + (f4 : Int)) = (aa : Int) := by rw [wrapI_eq _ (by omega) (by omega)]; omega
          have w3 : IntKind.i64.wrap (5 + (f4 : Int)) = (bb : Int) := by rw [wrapI_eq _ (by omega) (by omega)]; omega
          have b1 : (aa : Int) ≤ (bb : Int) := by omega
          have b2 : (bb : Int) ≤ 65 := by omega
          obtain ⟨t1, t2⟩ := tv_sub s k (by have := unhide HSZ; omega)
          rw [haa, hbb] at t1 t2
          have HVL := hide (fun W => rvalue_any (s.extract aa bb) t2 W)
          rw [t1] at HVL
          have hzb := tv_bound s k
          have HT1 := hide (tg_one s size k hk16 l)
          obtain ⟨z, hz⟩ : ∃ z, tv s k = z := ⟨_, rfl⟩
          rw [hz] at HVL hzb HT1
          have HK := hide hk
          clear t1 t2 hz hf4 haa hbb
          go_wp2_with fail
          refine (unhide HVL _).mono ?_
          rintro e w' ⟨rfl, hw'⟩
          subst w'
          clear w1 w2 w3 b1 b2 HVL
          by_cases hbad : z ≠ 18 ∧ ¬ (19 ≤ z ∧ z < size)
          · have HFB := hide (show TgQ s size w (.returned (.tuple #[.slice none 0 0, .bool false])) wo from ⟨.inl ⟨(unhide HTD).trans ((unhide HI).eq.trans ((unhide HT1).trans (if_pos ⟨hbad.1, .inl hbad.2⟩))), rfl⟩, (unhide HI).bel⟩)
            have z1 : (z != 18) = true := by simpa using hbad.1
            by_cases hz19 : z < 19
            · have z2 : decide (z < 19) = true := decide_eq_true hz19
              clear hbad
              go_wp2
              go_ret2
              exact unhide HFB
            · have z2 : decide (z < 19) = false := decide_eq_false hz19
              have z3 : decide (size ≤ z) = true := decide_eq_true (by omega)
              clear hbad
              go_wp2
              go_ret2
              exact unhide HFB
          · have HGOOD := hide hbad
            by_cases hz18 : z = 18
            · have z1 : (z != 18) = false := by simpa using hz18
              have HZ18 := hide hz18
              clear hbad hz18
              go_wp2_with fail
              go_loopw [9] (fun i wx => ∃ j : Nat, j ≤ k ∧ i = .int .i64 (j : Int) ∧ wx = wo ∧ ∀ q, q < j → ¬ (l.getD q 0 = z ∧ z ≠ 18)) (fun i _ => k - (intOf i).toNat)
              case atStart => exact ⟨0, by omega, rfl, rfl, fun q hq => absurd hq (by omega)⟩
              case round =>
                obtain ⟨j, hj, rfl, hwx, hno⟩ := hrel
                subst wr
                by_cases hjk : j < k
                · obtain ⟨g, e1, e2, -, -, -⟩ := own_cellT (unhide HI).row j hjk
                  subst e1
                  have hcj : wo.cell? ⟨g, j, none⟩ = some (.int .i64 (l.getD j 0)) := by
                    rw [e2, List.getElem?_map, List.getD_eq_getElem?_getD, List.getElem?_eq_getElem (by rw [(unhide HI).len]; exact hjk)]
                    rfl
                  obtain ⟨y, hy⟩ : ∃ y, l.getD j 0 = y := ⟨_, rfl⟩
                  rw [hy] at hcj
                  have HY := hide hy
                  have HNO := hide hno
                  have j0 : (0 : Int) ≤ (j : Int) := by omega
                  have j1 : (j : Int) < (k : Int) := by omega
                  clear hy hno e2
                  by_cases hyz : y = z
                  · have yb : (y == z) = true := by simpa using hyz
                    have HYZ := hide hyz
                    clear hyz
                    go_wp2
                    go_roundw
                    case rel => exact ⟨j + 1, by omega, by go_num, by first | rfl | trivial, fun q hq => by by_cases e : q < j; exact unhide HNO q e; exact fun r => r.2 (unhide HZ18)⟩
                    case measure => simp [intOf]; omega
                  · have yb : (y == z) = false := by simpa using hyz
                    have HYZ := hide hyz
                    clear hyz
                    go_wp2
                    go_roundw
                    case rel => exact ⟨j + 1, by omega, by go_num, by first | rfl | trivial, fun q hq => by by_cases e : q < j; exact unhide HNO q e; exact fun r => unhide HYZ (by rw [← unhide HY, show j = q by omega]; exact r.1)⟩
                    case measure => simp [intOf]; omega
                · have j1 : ¬ (j : Int) < (k : Int) := by omega
                  have hnb : ¬ badP size l z := fun q => by
                    rcases q with ⟨q1, q2 | q2⟩
                    · exact unhide HGOOD ⟨q1, q2⟩
                    · obtain ⟨i, hi, e⟩ := List.getElem_of_mem q2
                      refine hno i (by rw [(unhide HI).len] at hi; omega) ⟨?_, q1⟩
                      rw [List.getD_eq_getElem?_getD, List.getElem?_eq_getElem hi]
                      exact e
                  have HNB := hide hnb
                  have HIN := hide (show tgF s size 16 0 [] = tgF s size (16 - (k + 1)) (k + 1) (l ++ [z]) from (unhide HI).eq.trans ((unhide HT1).trans (if_neg hnb)))
                  have HRW := hide (show (wo.alloc (.cells #[.int .i64 z] 3)).ownsRow w.heap.size 3 1 (.slice pv k cv) k (l.map (Value.int .i64)) from owns_only (unhide HI).row (Only.of_below (P := fun _ => False) ((Below.refl _ wo).alloc (Nat.le_refl _) _)) (fun _ _ q => q))
                  have HBS := hide (show w.heap.size ≤ (wo.alloc (.cells #[.int .i64 z] 3)).heap.size from Nat.le_trans (unhide HI).bel.size (by simp))
                  have HML := hide (show k + 1 ≤ maxLen ∧ (k + 1) * 8 ≤ 140737488355328 from ⟨by unfold maxLen; omega, by omega⟩)
                  clear hno hnb
                  go_wp2_with (refine wpList_append_lies _ rfl (.tmp 58) (.tmp 60) 39 rfl w.heap.size 3 i0 (.int .i64 0) 1 8 Tryz.underlying39 (unhide HII).1 (unhide HII).2.1 (unhide HII).2.2.1 (unhide HII).2.2.2 rfl (by decide) (.slice pv k cv) k (l.map (Value.int .i64)) rfl (unhide HRW) ⟨wo.heap.size, 0, none⟩ 1 1 [.int .i64 z] rfl rfl (fun q u hu => news_one wo 3 _ q u hu) (by simp [Value.oneCell']) (by decide) (unhide HML).1 (unhide HML).2 (unhide HBS) _ rfl ?_)
                  intro g1 c1 y1 ho1 hg1 hor1 hlt1
                  have HNX := hide (show TgI s size w (k + 1) (l ++ [z]) (.slice (some ⟨g1, 0, none⟩) (k + 1) c1) y1 from ⟨by rw [List.map_append]; exact ho1, by simp [(unhide HI).len], unhide HIN, by
                    have b1 : Below w.heap.size w (wo.alloc (.cells #[.int .i64 z] 3)) := (unhide HI).bel.alloc (unhide HI).bel.size _
                    have b2 : Below w.heap.size (wo.alloc (.cells #[.int .i64 z] 3)) y1 := (grown_only hg1).below (unhide HBS) (fun b hb q => by have := ((unhide HRW).lt b q).1; omega)
                    exact b1.trans b2⟩)
                  clear ho1 hg1 hor1 hlt1 HRW HBS HML HIN HNB
                  go_wp2
                  go_roundw
                  case rel => exact ⟨k + 1, l ++ [z], _, by omega, by go_num, rfl, unhide HNX⟩
                  case measure => simp [intOf]; omega
            · have z1 : (z != 18) = true := by simpa using hz18
              have z2 : decide (z < 19) = false := decide_eq_false (by omega)
              have z3 : decide (size ≤ z) = false := decide_eq_false (by omega)
              have HZ18 := hide hz18
              clear hbad hz18
              go_wp2_with fail
              go_loopw [9] (fun i wx => ∃ j : Nat, j ≤ k ∧ i = .int .i64 (j : Int) ∧ wx = wo ∧ ∀ q, q < j → ¬ (l.getD q 0 = z ∧ z ≠ 18)) (fun i _ => k - (intOf i).toNat)
              case atStart => exact ⟨0, by omega, rfl, rfl, fun q hq => absurd hq (by omega)⟩
              case round =>
                obtain ⟨j, hj, rfl, hwx, hno⟩ := hrel
                subst wr
                by_cases hjk : j < k
                · obtain ⟨g, e1, e2, -, -, -⟩ := own_cellT (unhide HI).row j hjk
                  subst e1
                  have hcj : wo.cell? ⟨g, j, none⟩ = some (.int .i64 (l.getD j 0)) := by
                    rw [e2, List.getElem?_map, List.getD_eq_getElem?_getD, List.getElem?_eq_getElem (by rw [(unhide HI).len]; exact hjk)]
                    rfl
                  obtain ⟨y, hy⟩ : ∃ y, l.getD j 0 = y := ⟨_, rfl⟩
                  rw [hy] at hcj
                  have HY := hide hy
                  have HNO := hide hno
                  have j0 : (0 : Int) ≤ (j : Int) := by omega
                  have j1 : (j : Int) < (k : Int) := by omega
                  clear hy hno e2
                  by_cases hyz : y = z
                  · have yb : (y == z) = true := by simpa using hyz
                    have HMEM := hide (show badP size l z from ⟨unhide HZ18, .inr (by
                      have h1 := unhide HY
                      rw [hyz] at h1
                      rw [← h1, List.getD_eq_getElem?_getD, List.getElem?_eq_getElem (by rw [(unhide HI).len]; exact hjk)]
                      exact List.getElem_mem _)⟩)
                    have HFB := hide (show TgQ s size w (.returned (.tuple #[.slice none 0 0, .bool false])) wo from ⟨.inl ⟨(unhide HTD).trans ((unhide HI).eq.trans ((unhide HT1).trans (if_pos (unhide HMEM)))), rfl⟩, (unhide HI).bel⟩)
                    clear hyz
                    go_wp2
                    go_ret2
                    exact unhide HFB
                  · have yb : (y == z) = false := by simpa using hyz
                    have HYZ := hide hyz
                    clear hyz
                    go_wp2
                    go_roundw
                    case rel => exact ⟨j + 1, by omega, by go_num, by first | rfl | trivial, fun q hq => by by_cases e : q < j; exact unhide HNO q e; exact fun r => unhide HYZ (by rw [← unhide HY, show j = q by omega]; exact r.1)⟩
                    case measure => simp [intOf]; omega
                · have j1 : ¬ (j : Int) < (k : Int) := by omega
                  have hnb : ¬ badP size l z := fun q => by
                    rcases q with ⟨q1, q2 | q2⟩
                    · exact unhide HGOOD ⟨q1, q2⟩
                    · obtain ⟨i, hi, e⟩ := List.getElem_of_mem q2
                      refine hno i (by rw [(unhide HI).len] at hi; omega) ⟨?_, q1⟩
                      rw [List.getD_eq_getElem?_getD, List.getElem?_eq_getElem hi]
                      exact e
                  have HNB := hide hnb
                  have HIN := hide (show tgF s size 16 0 [] = tgF s size (16 - (k + 1)) (k + 1) (l ++ [z]) from (unhide HI).eq.trans ((unhide HT1).trans (if_neg hnb)))
                  have HRW := hide (show (wo.alloc (.cells #[.int .i64 z] 3)).ownsRow w.heap.size 3 1 (.slice pv k cv) k (l.map (Value.int .i64)) from owns_only (unhide HI).row (Only.of_below (P := fun _ => False) ((Below.refl _ wo).alloc (Nat.le_refl _) _)) (fun _ _ q => q))
                  have HBS := hide (show w.heap.size ≤ (wo.alloc (.cells #[.int .i64 z] 3)).heap.size from Nat.le_trans (unhide HI).bel.size (by simp))
                  have HML := hide (show k + 1 ≤ maxLen ∧ (k + 1) * 8 ≤ 140737488355328 from ⟨by unfold maxLen; omega, by omega⟩)
                  clear hno hnb
                  go_wp2_with (refine wpList_append_lies _ rfl (.tmp 58) (.tmp 60) 39 rfl w.heap.size 3 i0 (.int .i64 0) 1 8 Tryz.underlying39 (unhide HII).1 (unhide HII).2.1 (unhide HII).2.2.1 (unhide HII).2.2.2 rfl (by decide) (.slice pv k cv) k (l.map (Value.int .i64)) rfl (unhide HRW) ⟨wo.heap.size, 0, none⟩ 1 1 [.int .i64 z] rfl rfl (fun q u hu => news_one wo 3 _ q u hu) (by simp [Value.oneCell']) (by decide) (unhide HML).1 (unhide HML).2 (unhide HBS) _ rfl ?_)
                  intro g1 c1 y1 ho1 hg1 hor1 hlt1
                  have HNX := hide (show TgI s size w (k + 1) (l ++ [z]) (.slice (some ⟨g1, 0, none⟩) (k + 1) c1) y1 from ⟨by rw [List.map_append]; exact ho1, by simp [(unhide HI).len], unhide HIN, by
                    have b1 : Below w.heap.size w (wo.alloc (.cells #[.int .i64 z] 3)) := (unhide HI).bel.alloc (unhide HI).bel.size _
                    have b2 : Below w.heap.size (wo.alloc (.cells #[.int .i64 z] 3)) y1 := (grown_only hg1).below (unhide HBS) (fun b hb q => by have := ((unhide HRW).lt b q).1; omega)
                    exact b1.trans b2⟩)
                  clear ho1 hg1 hor1 hlt1 HRW HBS HML HIN HNB
                  go_wp2
                  go_roundw
                  case rel => exact ⟨k + 1, l ++ [z], _, by omega, by go_num, rfl, unhide HNX⟩
                  case measure => simp [intOf]; omega
        · have k16 : ¬ (k : Int) < 16 := by omega
          have HFB := hide (show TgQ s size w (.returned (.tuple #[.slice pv k cv, .bool true])) wo from ⟨.inr ⟨l, pv, cv, (unhide HTD).trans ((unhide HI).eq.trans (by rw [show k = 16 by omega]; rfl)), by rw [(unhide HI).len], by rw [(unhide HI).len]; exact (unhide HI).row⟩, (unhide HI).bel⟩)
          go_wp2
          go_ret2
          exact unhide HFB
    · have HFB := hide (show TgQ s size w (.returned (.tuple #[.slice none 0 0, .bool false])) w from ⟨.inl ⟨by rw [tgD, if_neg (fun q => h1 (by have := q.2; rw [hd] at this; omega))], rfl⟩, Below.refl _ _⟩)
      have hd1 : ((d : Int) != 1) = true := by simp; omega
      clear hd h1 h65
      go_enter Tryz.func76, Tryz.ntmps76
      go_wp2
      go_ret2
      exact unhide HFB
  · have HFB := hide (show TgQ s size w (.returned (.tuple #[.slice none 0 0, .bool false])) w from ⟨.inl ⟨by rw [tgD, if_neg (fun q => h65 q.1)], rfl⟩, Below.refl _ _⟩)
    have hsn : ((s.size : Int) != 65) = true := by simp; omega
    clear h65
    go_enter Tryz.func76, Tryz.ntmps76
    go_wp2
    go_ret2
    exact unhide HFB
end Go.Proofs.YtffiaogbphgmgaaGreatDoor

namespace Go.Proofs.YtffiaogbphgmgaaGreatDoor
open Go.RowKit
end Go.Proofs.YtffiaogbphgmgaaGreatDoor

namespace Go.Proofs.YtffiaogbphgmgaaGreatDoor
open Go.RowKit
theorem Strs.own {w : World} {base : Nat} {v : Value} {l : List ByteArray} (h : w.ownsRow base 9 1 v l.length (strs l)) : ∃ p c, v = .slice p l.length c ∧ Strs w p l := by
  rcases h.2 with ⟨h1, h2⟩ | ⟨g, cap, cur, h1, hb, hg, _⟩
  · refine ⟨none, 0, by rw [h1, h2], fun j hj => ?_⟩
    omega
  · refine ⟨some ⟨g, 0, none⟩, cap, h1, fun j hj => ⟨g, 0, rfl, Blk.lt hg, ?_⟩⟩
    rw [Nat.zero_add, (own_at h (by rw [h1]; rfl) j hj).1]
    exact strs_at _ _ hj
theorem Strs.below {w w' : World} {p : Option Addr} {l : List ByteArray} (h : Strs w p l) (hb : Below w.heap.size w w') : Strs w' p l := fun j hj => by
  obtain ⟨g, o, h1, h2, h3⟩ := h j hj
  exact ⟨g, o, h1, Nat.lt_of_lt_of_le h2 hb.size, (hb.cell (p := ⟨g, o + j, none⟩) h2).trans h3⟩
theorem Dk.base {w : World} {B B' b : Nat} {v : DV} {s : DSt} (h : Dk w B b v s) (hb : B' ≤ B) : Dk w B' b v s :=
  ⟨h.blk, owns_base h.rl hb, owns_base h.rn hb, owns_base h.rp hb, owns_base h.ra hb, h.ne, Nat.le_trans hb h.lo⟩
end Go.Proofs.YtffiaogbphgmgaaGreatDoor

namespace Go.Proofs.YtffiaogbphgmgaaGreatDoor
open Go.RowKit
/-- At block b lies the document's disk, fresh: these sectors. -/
def Rk0 (w : World) (base b : Nat) (v : Value) (l : List ByteArray) : Prop :=
  Blk w b #[v, .slice none 0 0, .int .i64 0, .bool false, .slice none 0 0] 66 ∧ w.ownsRow base 9 1 v l.length (strs l) ∧ base ≤ b
theorem Rk0.below {w w' : World} {base b : Nat} {v : Value} {l : List ByteArray} (h : Rk0 w base b v l) (hb : Below w.heap.size w w') : Rk0 w' base b v l :=
  ⟨h.1.below hb h.1.lt, owns_only h.2.1 (Only.of_below (P := fun _ => False) hb) (fun _ _ q => q), h.2.2⟩
theorem Rk0.drew {w : World} {base b : Nat} {v : Value} {l : List ByteArray} (h : Rk0 w base b v l) : Rk0 w.drew base b v l := h.below ((Below.refl _ w).drew)
def RNewPost (n : Int) (w : World) (e : Ending) (w' : World) : Prop :=
  if 128 ≤ n ∧ n ≤ 1024 then ∃ b v, e = .returned (.tuple #[.pointer (some ⟨b, 0, none⟩), .int .i64 0]) ∧ Rk0 w' w.heap.size b v (List.replicate n.toNat zero256) ∧ Below w.heap.size w w'
  else e = .returned (.tuple #[.pointer none, .int .i64 40]) ∧ w' = w
theorem zero_numsR : strOfNums (List.replicate 256 0) = zero256 := by
  rw [strOfNums, List.map_replicate]
  rfl
/-- The sectors are being laid down. -/
def RnI (w : World) (b : Nat) (t : ByteArray) (k : Nat) (wr : World) : Prop := ∃ v, Rk0 wr w.heap.size b v (List.replicate k t) ∧ Below w.heap.size w wr
set_option maxRecDepth 100000 in
set_option maxHeartbeats 2000000 in
theorem rnew_any (n : Int) (w : World) : Calls Tryz.prog 6 #[.int .i64 n] w (RNewPost n w) := by
  by_cases hn : 128 ≤ n ∧ n ≤ 1024
  · obtain ⟨m, rfl⟩ := Int.eq_ofNat_of_zero_le (show 0 ≤ n by omega)
    have hm1 : 128 ≤ m := by omega
    have hm2 : m ≤ 1024 := by omega
    have HN := hide hn
    clear hn
    obtain ⟨W0, hW0⟩ : ∃ W0, W0 = w.alloc (Obj.cells #[.slice none 0 0, .slice none 0 0, .int .i64 0, .bool false, .slice none 0 0] 66) := ⟨_, rfl⟩
    have R0 : Rk0 W0 w.heap.size w.heap.size (.slice none 0 0) [] := by rw [hW0]; exact ⟨Blk.new _ _ _, World.ownsRow_nil _ _ _ _, Nat.le_refl _⟩
    have BB0 : Below w.heap.size w W0 := by rw [hW0]; exact (Below.refl _ _).alloc (Nat.le_refl _) _
    have hs0 : W0.heap.size = w.heap.size + 1 := by rw [hW0]; simp
    have hmk := run_make_u8 256 256 (by omega) (by omega) W0
    have ha := arr_new W0 .u8 (List.replicate 256 (0 : Int)) 5 _ rfl
    have hb1 : Below W0.heap.size W0 (W0.alloc (.cells ((List.replicate 256 (0 : Int)).map (Value.int .u8)).toArray 5)) := (Below.refl _ _).alloc (Nat.le_refl _) _
    generalize W0.alloc (.cells ((List.replicate 256 (0 : Int)).map (Value.int .u8)).toArray 5) = W1 at *
    have hcv := run_convert_bytes_arg (P := Tryz.prog) W1 67 5 Tryz.underlying67 Tryz.underlying5 W0.heap.size 0 256 256 (List.replicate 256 (0 : Int)) (List.length_replicate) (fun i hi => ha.get i (by rw [List.length_replicate]; omega)) 9 Tryz.underlying9
    rw [zero_numsR] at hcv
    simp only [Int.cast_ofNat_Int] at hmk
    rw [hs0] at hmk hcv
    have X0 := hide (show RnI w w.heap.size zero256 0 W1 from ⟨_, R0.below hb1, BB0.trans (hb1.mono BB0.size)⟩)
    generalize hZ : zero256 = Z at *
    have HZ := hide hZ
    have HW0 := hide hW0
    clear R0 BB0 ha hb1 hZ hs0
    go_enter Tryz.func6, Tryz.ntmps6
    rw [hW0] at hmk
    clear hW0
    go_wp2
    clear hmk hcv HW0
    go_loopw [6] (fun i wr => ∃ k : Nat, k ≤ m ∧ i = .int .i64 (k : Int) ∧ RnI w w.heap.size Z k wr) (fun i _ => m - (intOf i).toNat)
    case atStart => exact ⟨0, by omega, rfl, unhide X0⟩
    case round =>
      obtain ⟨k, hk, rfl, v, hR, hb⟩ := hrel
      obtain ⟨wo, rfl⟩ : ∃ wo, wo = wr := ⟨_, rfl⟩
      have XR := hide hR
      have XB := hide hb
      clear hR hb X0
      by_cases hkm : k < m
      · obtain ⟨p, cap, ev, hcap⟩ := row_form (unhide XR).2.1
        rw [List.length_replicate] at ev hcap
        have c0 : wo.cell? ⟨w.heap.size, 0, none⟩ = some (.slice p k cap) := by rw [(unhide XR).1.cell 0, ← ev]; rfl
        have H := hide ((unhide XR).below ((Below.refl _ wo).alloc (Nat.le_refl _) (Obj.cells #[.string Z] 9)))
        have HE := hide ev
        have hsz := (unhide XB).size
        obtain ⟨i0, hi0, hz0, hz1, hz2⟩ := info_parts infoS
        have HI := hide (And.intro hi0 (And.intro hz0 (And.intro hz1 hz2)))
        have HNB := hide (show v.ownBlock ≠ some w.heap.size from (unhide XR).1.not_row (by decide) (unhide XR).2.1)
        clear ev hi0 hz0 hz1 hz2
        go_wp2_with (refine wpList_append_lies _ rfl (.tmp 26) (.tmp 28) 56 rfl w.heap.size 9 i0 (.string ⟨#[]⟩) 1 16 Tryz.underlying56 (unhide HI).1 (unhide HI).2.1 (unhide HI).2.2.1 (unhide HI).2.2.2 rfl (by decide) _ k (strs (List.replicate k Z)) (unhide HE).symm (by have := (unhide H).2.1; rw [List.length_replicate] at this; exact this) ⟨wo.heap.size, 0, none⟩ 1 1 [.string Z] rfl rfl (fun j u hu => news_one wo _ _ j u hu) (by simp [Value.oneCell']) (by decide) (by unfold maxLen; omega) (by omega) (by simp; omega) _ rfl ?_)
        intro g cap' w1 ho hg hor hlt
        have hO := grown_only hg
        have B1 : Blk w1 w.heap.size _ _ := (unhide H).1.only hO (unhide HNB)
        have c0' : w1.cell? ⟨w.heap.size, 0, none⟩ = some v := by rw [B1.cell 0]; rfl
        have f0' := B1.frozen 0
        have HR := hide (show RnI w w.heap.size Z (k + 1) (w1.setCell ⟨w.heap.size, 0, none⟩ (.slice (some ⟨g, 0, none⟩) (k + 1) cap')) from by
          refine ⟨.slice (some ⟨g, 0, none⟩) (k + 1) cap', ⟨B1.set 0 _, ?_, Nat.le_refl _⟩, ?_⟩
          · have hne := B1.not_row (by decide) ho
            have := owns_setO ho ⟨w.heap.size, 0, none⟩ (.slice (some ⟨g, 0, none⟩) (k + 1) cap') hne
            rw [List.length_replicate, List.replicate_succ']
            simpa [strs] using this
          · exact (((unhide XB).alloc hsz _).grown hg (by simp; omega) (fun q hq => ((unhide H).2.1.lt q hq).1)).setCell (Nat.le_refl _) _)
        clear ho hg hor hlt hO B1
        go_wp2
        go_roundw
        case rel => exact ⟨k + 1, by omega, by go_num, unhide HR⟩
        case measure => simp [intOf]; omega
      · have hk' : m = k := by omega
        subst hk'
        go_wp2
        go_ret2
        rw [RNewPost, if_pos (unhide HN)]
        exact ⟨_, v, rfl, by rw [Int.toNat_natCast, unhide HZ]; exact unhide XR, unhide XB⟩
  · have HN := hide hn
    by_cases h1 : n < 128
    · clear hn
      go_enter Tryz.func6, Tryz.ntmps6
      go_wp2
      go_ret2
      rw [RNewPost, if_neg (unhide HN)]
      exact ⟨rfl, rfl⟩
    · have h2 : 1024 < n := by omega
      clear hn
      go_enter Tryz.func6, Tryz.ntmps6
      go_wp2
      go_ret2
      rw [RNewPost, if_neg (unhide HN)]
      exact ⟨rfl, rfl⟩
end Go.Proofs.YtffiaogbphgmgaaGreatDoor

namespace Go.Proofs.YtffiaogbphgmgaaGreatDoor
open Go.RowKit
end Go.Proofs.YtffiaogbphgmgaaGreatDoor
