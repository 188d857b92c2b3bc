import Derived.Test.YtkkndlkelpdehaaGreatDoorMr10
import Derived.Test.YtkkndlkelpdehaaGreatDoorMr16
import Derived.WalkMore
namespace Go.Proofs.YtkkndlkelpdehaaGreatDoor
open Go.RowKit
def rdV (r : RSt) (k : Int) : Int := if r.e = 0 then numV k r.r else 0
def rdS (r : RSt) (k : Int) : RSt := stepR r (numE k r.r) k.toNat
/-- The first of the homes that may not be: it is no free sector and not the fill, or it is there already. -/
def badP (size : Int) (l : List Int) (z : Int) : Prop := z ≠ 18 ∧ (¬ (19 ≤ z ∧ z < size) ∨ z ∈ l)
instance (size : Int) (l : List Int) (z : Int) : Decidable (badP size l z) := inferInstanceAs (Decidable (_ ∧ _))
def homesF (size : Int) : Nat → RSt → List Int → RSt × List Int
  | 0, r, l => (r, l)
  | k + 1, r, l => if badP size l (rdV r 4) then (rdS r 4, l) else homesF size k (rdS r 4) (l ++ [rdV r 4])
theorem rdS_ok (r : RSt) (k : Int) (N : Nat) (h : r.ok N) : (rdS r k).ok N := stepR_ok r _ _ N h (fun e => (numE_le k r.r e).1)
def HoI (w : World) (rb : Nat) (size : Int) (r0 : RSt) (k : Nat) (v : Value) (wr : World) : Prop :=
  ∃ r' l', homesF size 16 r0 [] = homesF size (16 - k) r' l' ∧ Rds wr rb r' ∧ r'.ok 9223372036854775807 ∧ wr.ownsRow w.heap.size 3 1 v l'.length (l'.map (Value.int .i64)) ∧ l'.length = k ∧ ETy wr ∧ Only (fun q => q = rb) w wr
def HoP (w : World) (rb : Nat) (H : RSt × List Int) (v : Value) (w' : World) : Prop := w'.ownsRow w.heap.size 3 1 v H.2.length (H.2.map (Value.int .i64)) ∧ Rds w' rb H.1 ∧ H.1.ok 9223372036854775807 ∧ Only (fun q => q = rb) w w'
theorem infoI3h : (Tryz.prog.info? 3).map (fun i => (i.zero, i.size, i.bytes)) = some (some (.int .i64 0), 1, 8) := by kernel_rfl
theorem news_one (w : World) (T : TypeId) (x : Value) (j : Nat) (u : Value) (hu : [x][j]? = some u) : (w.alloc (.cells #[x] T)).cell? (Addr.add ⟨w.heap.size, 0, none⟩ j) = some u := by
  rw [Addr.add_mid, Nat.zero_add, (Blk.new w T #[x]).cell j]
  simpa using hu
theorem homes_one (size : Int) (k : Nat) (hk : k < 16) (r : RSt) (l : List Int) : homesF size (16 - k) r l = if badP size l (rdV r 4) then (rdS r 4, l) else homesF size (16 - (k + 1)) (rdS r 4) (l ++ [rdV r 4]) := by
  rw [show 16 - k = (16 - (k + 1)) + 1 by omega, homesF]
set_option maxRecDepth 100000 in
set_option maxHeartbeats 2000000 in
theorem readHomes_any (w : World) (rb : Nat) (r : RSt) (h : Rds w rb r) (hg : ETy w) (hN : r.ok 9223372036854775807) (size : Int) :
    Calls Tryz.prog 111 #[.pointer (some ⟨rb, 0, none⟩), .int .i64 size] w fun e w' => ∃ v, e = .returned v ∧ HoP w rb (homesF size 16 r []) v w' := by
  have hrl : rb < w.heap.size := Blk.lt h
  have X0 := hide (show HoI w rb size r 0 (.slice none 0 0) w from ⟨r, [], rfl, h, hN, World.ownsRow_nil _ _ _ _, rfl, hg, Only.refl _ _⟩)
  have HGL := hide hg.lt
  clear h hg hN
  obtain ⟨i0, hi0, hz0, hz1, hz2⟩ := info_parts infoI3h
  have HI := hide (And.intro hi0 (And.intro hz0 (And.intro hz1 hz2)))
  clear hi0 hz0 hz1 hz2
  go_enter Tryz.func111, Tryz.ntmps111
  go_wp2
  go_step3
  go_wp2
  go_step3
  go_wp2
  go_loopw [5, 9] (fun u i wr => ∃ k : Nat, k ≤ 16 ∧ i = .int .i64 (k : Int) ∧ HoI w rb size r k u wr) (fun _ i _ => 16 - (intOf i).toNat)
  case atStart => exact ⟨0, by omega, rfl, unhide X0⟩
  case round =>
    obtain ⟨k, hk, rfl, r', l', hH, hR, hN, hO, hl, hg, hW⟩ := hrel
    obtain ⟨wo, rfl⟩ : ∃ wo, wo = wr := ⟨_, rfl⟩
    clear X0
    obtain ⟨pv, cv, rfl, hcv⟩ := row_form hO
    rw [hl] at hcv ⊢
    by_cases hk16 : k < 16
    · have hk16' : (k : Int) < 16 := by omega
      have hst := homes_one size k hk16 r' l'
      have HNC := hide (numS wo rb r' hR hg hN 4)
      have hN1 := rdS_ok r' 4 _ hN
      have HH := hide hH
      have HST := hide hst
      have HN1 := hide hN1
      have HOW := hide (And.intro hO (And.intro hg hW))
      have HL := hide hl
      have HRN := hide (hR.ne hg)
      clear hR hN hO hl hg hW hH hst hN1
      go_wp2_with fail
      refine (unhide HNC).mono ?_
      rintro e x1 ⟨rfl, hR1, hO1⟩
      have HR1 := hide (show Rds x1 rb (rdS r' 4) from hR1)
      have HO1 := hide (show Only (fun q => q = rb) w x1 from (unhide HOW).2.2.trans hO1 (fun _ _ q => q))
      have HRW := hide (show x1.ownsRow w.heap.size 3 1 (.slice pv k cv) l'.length (l'.map (Value.int .i64)) from owns_only (by have := (unhide HOW).1; rw [unhide HL] at this ⊢; exact this) hO1 (fun q hq e => by have := ((unhide HOW).1.lt q (by rw [unhide HL]; exact hq)).1; have e : q = rb := e; omega))
      have HG1 := hide ((unhide HOW).2.1.only hO1 (fun q => unhide HRN q.symm))
      clear hR1 hO1 HNC HOW
      obtain ⟨z, hz⟩ : ∃ z, rdV r' 4 = z := ⟨_, rfl⟩
      have hz' : (if r'.e = 0 then numV 4 r'.r else 0) = z := hz
      rw [hz']
      rw [hz] at HST
      clear hz hz'
      by_cases h18 : z = 18
      · subst h18
        have HNB := hide (show homesF size 16 r [] = homesF size (16 - (k + 1)) (rdS r' 4) (l' ++ [18]) from by rw [unhide HH, unhide HST, if_neg (fun q => q.1 rfl)])
        clear HH HST
        have HRA := hide (show (x1.alloc (.cells #[.int .i64 18] 3)).ownsRow w.heap.size 3 1 (.slice pv k cv) k (l'.map (Value.int .i64)) from by have := owns_only (unhide HRW) (Only.of_below (P := fun _ => False) ((Below.refl _ x1).alloc (Nat.le_refl _) (.cells #[.int .i64 18] 3))) (fun _ _ q => q); rw [unhide HL] at this; exact this)
        have hxs : w.heap.size ≤ (x1.alloc (.cells #[.int .i64 18] 3)).heap.size := by have := (unhide HO1).size; simp; omega
        have HXS := hide hxs
        clear hxs
        go_wp2_with (refine wpList_append_own _ rfl (.tmp 29) (.tmp 31) 28 rfl w.heap.size 3 i0 (.int .i64 0) 1 8 Tryz.underlying28 (unhide HI).1 (unhide HI).2.1 (unhide HI).2.2.1 (unhide HI).2.2.2 rfl (by decide) _ k (l'.map (Value.int .i64)) rfl (unhide HRA) ⟨x1.heap.size, 0, none⟩ 1 1 [.int .i64 18] rfl rfl (fun q u hu => news_one x1 3 _ q u hu) (by simp [Value.oneCell']) (by unfold maxLen; omega) (by omega) (unhide HXS) ?_)
        intro v5 x5 ho5 hg5 _
        have hO5 : Only (fun q => (Value.slice pv k cv).ownBlock = some q) (x1.alloc (.cells #[.int .i64 18] 3)) x5 := (Only.refl _ _).grown hg5 (fun q _ e => e)
        have hnr : ∀ q, (Value.slice pv k cv).ownBlock = some q → w.heap.size ≤ q := fun q hq => ((unhide HRA).lt q hq).1
        have HRR := hide (show HoI w rb size r (k + 1) v5 x5 from by
          refine ⟨_, _, unhide HNB, ?_, unhide HN1, ?_, by simp [unhide HL], ?_, ?_⟩
          · exact Rds.only (Rds.only (unhide HR1) ((Only.refl (fun _ => False) x1).alloc _) (fun q => q)) hO5 (fun q => by have := hnr rb q; omega)
          · simpa [unhide HL] using ho5
          · have hgv := ((unhide HG1).only ((Only.refl (fun _ => False) x1).alloc (.cells #[.int .i64 18] 3)) (fun q => q))
            exact hgv.only hO5 (fun q => by have := hnr _ q; have := unhide HGL; omega)
          · exact ((unhide HO1).alloc _).trans hO5 (fun q hq e => by have := hnr q e; omega))
        clear ho5 hg5 hO5 hnr HRA
        go_wp2
        go_roundw
        case rel => exact ⟨k + 1, by omega, by go_num, unhide HRR⟩
        case measure => simp [intOf]; omega
      · have h18b : (z != 18) = true := by simp [h18]
        have HFR := hide (fun W => isFree_any z size W)
        go_wp2_with fail
        refine (unhide HFR _).mono ?_
        rintro e x2 ⟨rfl, rfl⟩
        by_cases hfr : 19 ≤ z ∧ z < size
        · have hd : decide (19 ≤ z ∧ z < size) = true := by simp [hfr]
          rw [hd]
          clear hd
          go_wp2
          go_loopw [21] (fun i wr => ∃ m : Nat, m ≤ k ∧ i = .int .i64 (m : Int) ∧ (∀ j, j < m → l'.getD j 0 ≠ z) ∧ wr = x2) (fun i _ => k - (intOf i).toNat)
          case atStart => exact ⟨0, by omega, rfl, fun j hj => absurd hj (by omega), rfl⟩
          case round =>
            obtain ⟨m, hm, rfl, hA, rfl⟩ := hrel
            have HA := hide hA
            clear hA
            by_cases hmk : m < k
            · obtain ⟨gv, cap', ev, _⟩ := (unhide HRW).form (by rw [unhide HL]; omega)
              have hpv : pv = some ⟨gv, 0, none⟩ := by simp at ev; exact ev.1
              subst hpv
              have cm : wr.cell? ⟨gv, m, none⟩ = some (.int .i64 (l'.getD m 0)) := by
                rw [(own_at (unhide HRW) rfl m (by rw [unhide HL]; exact hmk)).1]
                have hml : m < l'.length := by rw [unhide HL]; exact hmk
                simp [List.getD_eq_getElem?_getD, hml]
              have hmk' : (m : Int) < (k : Int) := by omega
              have hm0 : 0 ≤ (m : Int) := by omega
              clear ev
              by_cases heq : l'.getD m 0 = z
              · have HIN := hide (show z ∈ l' from by rw [← heq, List.getD_eq_getElem?_getD, List.getElem?_eq_getElem (by rw [unhide HL]; exact hmk)]; exact List.getElem_mem _)
                rw [heq] at cm
                have HPO := hide (show HoP w rb (homesF size 16 r []) (.slice (some ⟨gv, 0, none⟩) k cv) wr from by
                  rw [unhide HH, unhide HST, if_pos ⟨h18, .inr (unhide HIN)⟩]
                  exact ⟨unhide HRW, unhide HR1, unhide HN1, unhide HO1⟩)
                clear HH HST HIN heq
                go_wp2
                try rw [Exit.noGoto_ret]
                go_ret
                exact ⟨_, rfl, unhide HPO⟩
              · have HA2 := hide (show ∀ j, j < m + 1 → l'.getD j 0 ≠ z from fun j hj => by
                  by_cases hjm : j = m
                  · subst hjm; exact heq
                  · exact unhide HA j (by omega))
                have hne : (l'.getD m 0 == z) = false := by simpa using heq
                generalize l'.getD m 0 = lm at *
                go_wp2
                go_roundw
                case rel => exact ⟨m + 1, by omega, by go_num, unhide HA2, by first | rfl | trivial⟩
                case measure => simp [intOf]; omega
            · have hmk' : m = k := by omega
              subst hmk'
              have HNB := hide (show homesF size 16 r [] = homesF size (16 - (m + 1)) (rdS r' 4) (l' ++ [z]) from by
                rw [unhide HH, unhide HST, if_neg (fun q => by
                  rcases q.2 with q | q
                  · exact q hfr
                  · obtain ⟨j, hj, e⟩ := List.getElem_of_mem q
                    refine unhide HA j (by rw [← unhide HL]; exact hj) ?_
                    rw [List.getD_eq_getElem?_getD, List.getElem?_eq_getElem hj]
                    exact e)])
              clear HH HST HA hmk
              have HRA := hide (show (wr.alloc (.cells #[.int .i64 z] 3)).ownsRow w.heap.size 3 1 (.slice pv m cv) m (l'.map (Value.int .i64)) from by have := owns_only (unhide HRW) (Only.of_below (P := fun _ => False) ((Below.refl _ wr).alloc (Nat.le_refl _) (.cells #[.int .i64 z] 3))) (fun _ _ q => q); rw [unhide HL] at this; exact this)
              have hxs : w.heap.size ≤ (wr.alloc (.cells #[.int .i64 z] 3)).heap.size := by have := (unhide HO1).size; simp; omega
              have HXS := hide hxs
              clear hxs
              go_wp2_with (refine wpList_append_own _ rfl (.tmp 29) (.tmp 31) 28 rfl w.heap.size 3 i0 (.int .i64 0) 1 8 Tryz.underlying28 (unhide HI).1 (unhide HI).2.1 (unhide HI).2.2.1 (unhide HI).2.2.2 rfl (by decide) _ m (l'.map (Value.int .i64)) rfl (unhide HRA) ⟨wr.heap.size, 0, none⟩ 1 1 [.int .i64 z] rfl rfl (fun q u hu => news_one wr 3 _ q u hu) (by simp [Value.oneCell']) (by unfold maxLen; omega) (by omega) (unhide HXS) ?_)
              intro v5 x5 ho5 hg5 _
              have hO5 : Only (fun q => (Value.slice pv m cv).ownBlock = some q) (wr.alloc (.cells #[.int .i64 z] 3)) x5 := (Only.refl _ _).grown hg5 (fun q _ e => e)
              have hnr : ∀ q, (Value.slice pv m cv).ownBlock = some q → w.heap.size ≤ q := fun q hq => ((unhide HRA).lt q hq).1
              have HRR := hide (show HoI w rb size r (m + 1) v5 x5 from by
                refine ⟨_, _, unhide HNB, ?_, unhide HN1, ?_, by simp [unhide HL], ?_, ?_⟩
                · exact Rds.only (Rds.only (unhide HR1) ((Only.refl (fun _ => False) wr).alloc _) (fun q => q)) hO5 (fun q => by have := hnr rb q; omega)
                · simpa [unhide HL] using ho5
                · have hgv := ((unhide HG1).only ((Only.refl (fun _ => False) wr).alloc (.cells #[.int .i64 z] 3)) (fun q => q))
                  exact hgv.only hO5 (fun q => by have := hnr _ q; have := unhide HGL; omega)
                · exact ((unhide HO1).alloc _).trans hO5 (fun q hq e => by have := hnr q e; omega))
              clear ho5 hg5 hO5 hnr HRA
              go_wp2
              go_roundw
              case rel => exact ⟨m + 1, by omega, by go_num, unhide HRR⟩
              case measure => simp [intOf]; omega
        · have hd : decide (19 ≤ z ∧ z < size) = false := by simpa using hfr
          have HPO := hide (show HoP w rb (homesF size 16 r []) (.slice pv k cv) x2 from by
            rw [unhide HH, unhide HST, if_pos ⟨h18, .inl hfr⟩]
            exact ⟨unhide HRW, unhide HR1, unhide HN1, unhide HO1⟩)
          rw [hd]
          clear HH HST hd hfr
          go_wp2
          try rw [Exit.noGoto_ret]
          go_ret
          exact ⟨_, rfl, unhide HPO⟩
    · have hk' : k = 16 := by omega
      subst hk'
      have HPO := hide (show HoP w rb (homesF size 16 r []) (.slice pv 16 cv) wo from by
        rw [hH]
        refine ⟨?_, hR, hN, hW⟩
        show wo.ownsRow w.heap.size 3 1 (.slice pv 16 cv) l'.length _
        rw [hl] at hO ⊢
        exact hO)
      clear hH hR hN hO hl hg hW hk16
      go_wp2
      try rw [Exit.noGoto_ret]
      go_ret
      exact ⟨_, rfl, unhide HPO⟩
end Go.Proofs.YtkkndlkelpdehaaGreatDoor
