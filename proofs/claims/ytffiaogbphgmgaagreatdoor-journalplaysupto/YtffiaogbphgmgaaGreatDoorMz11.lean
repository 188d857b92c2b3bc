import Derived.Test.YtffiaogbphgmgaaGreatDoorMz05
import Derived.Test.YtffiaogbphgmgaaGreatDoorMz10
import Derived.WalkMore
import Derived.Test.YtffiaogbphgmgaaGreatDoorMz09
import Derived.Test.YtffiaogbphgmgaaGreatDoorMz04
import Derived.Test.YtffiaogbphgmgaaGreatDoorMz02
import Derived.Test.YtffiaogbphgmgaaGreatDoorMz03
namespace Go.Proofs.YtffiaogbphgmgaaGreatDoor
open Go.RowKit
def rdV (r : RSt) (k : Int) : Int := if r.e = 0 then numV k r.r else 0
def rdS (r : RSt) (k : Int) : RSt := stepR r (numE k r.r) k.toNat
/-- The first of the homes that may not be: it is no free sector and not the fill, or it is there already. -/
def badP (size : Int) (l : List Int) (z : Int) : Prop := z ≠ 18 ∧ (¬ (19 ≤ z ∧ z < size) ∨ z ∈ l)
instance (size : Int) (l : List Int) (z : Int) : Decidable (badP size l z) := inferInstanceAs (Decidable (_ ∧ _))
def homesF (size : Int) : Nat → RSt → List Int → RSt × List Int
  | 0, r, l => (r, l)
  | k + 1, r, l => if badP size l (rdV r 4) then (rdS r 4, l) else homesF size k (rdS r 4) (l ++ [rdV r 4])
theorem rdS_ok (r : RSt) (k : Int) (N : Nat) (h : r.ok N) : (rdS r k).ok N := stepR_ok r _ _ N h (fun e => (numE_le k r.r e).1)
def HoI (w : World) (rb : Nat) (size : Int) (r0 : RSt) (k : Nat) (v : Value) (wr : World) : Prop :=
  ∃ r' l', homesF size 16 r0 [] = homesF size (16 - k) r' l' ∧ Rds wr rb r' ∧ r'.ok 9223372036854775807 ∧ wr.ownsRow w.heap.size 3 1 v l'.length (l'.map (Value.int .i64)) ∧ l'.length = k ∧ ETy wr ∧ Only (fun q => q = rb) w wr
def HoP (w : World) (rb : Nat) (H : RSt × List Int) (v : Value) (w' : World) : Prop := w'.ownsRow w.heap.size 3 1 v H.2.length (H.2.map (Value.int .i64)) ∧ Rds w' rb H.1 ∧ H.1.ok 9223372036854775807 ∧ Only (fun q => q = rb) w w'
theorem infoI3h : (Tryz.prog.info? 3).map (fun i => (i.zero, i.size, i.bytes)) = some (some (.int .i64 0), 1, 8) := by kernel_rfl
theorem news_one (w : World) (T : TypeId) (x : Value) (j : Nat) (u : Value) (hu : [x][j]? = some u) : (w.alloc (.cells #[x] T)).cell? (Addr.add ⟨w.heap.size, 0, none⟩ j) = some u := by
  rw [Addr.add_mid, Nat.zero_add, (Blk.new w T #[x]).cell j]
  simpa using hu
theorem homes_one (size : Int) (k : Nat) (hk : k < 16) (r : RSt) (l : List Int) : homesF size (16 - k) r l = if badP size l (rdV r 4) then (rdS r 4, l) else homesF size (16 - (k + 1)) (rdS r 4) (l ++ [rdV r 4]) := by
  rw [show 16 - k = (16 - (k + 1)) + 1 by omega, homesF]
set_option maxRecDepth 100000 in
set_option maxHeartbeats 2000000 in
theorem readHomes_any (w : World) (rb : Nat) (r : RSt) (h : Rds w rb r) (hg : ETy w) (hN : r.ok 9223372036854775807) (size : Int) :
    Calls Tryz.prog 105 #[.pointer (some ⟨rb, 0, none⟩), .int .i64 size] w fun e w' => ∃ v, e = .returned v ∧ HoP w rb (homesF size 16 r []) v w' := by
  have hrl : rb < w.heap.size := Blk.lt h
  have X0 := hide (show HoI w rb size r 0 (.slice none 0 0) w from ⟨r, [], rfl, h, hN, World.ownsRow_nil _ _ _ _, rfl, hg, Only.refl _ _⟩)
  have HGL := hide hg.lt
  clear h hg hN
  obtain ⟨i0, hi0, hz0, hz1, hz2⟩ := info_parts infoI3h
  have HI := hide (And.intro hi0 (And.intro hz0 (And.intro hz1 hz2)))
  clear hi0 hz0 hz1 hz2
  go_enter Tryz.func105, Tryz.ntmps105
  go_wp2
  go_step3
  go_wp2
  go_step3
  go_wp2
  go_loopw [5, 9] (fun u i wr => ∃ k : Nat, k ≤ 16 ∧ i = .int .i64 (k : Int) ∧ HoI w rb size r k u wr) (fun _ i _ => 16 - (intOf i).toNat)
  case atStart => exact ⟨0, by omega, rfl, unhide X0⟩
  case round =>
    obtain ⟨k, hk, rfl, r', l', hH, hR, hN, hO, hl, hg, hW⟩ := hrel
    obtain ⟨wo, rfl⟩ : ∃ wo, wo = wr := ⟨_, rfl⟩
    clear X0
    obtain ⟨pv, cv, rfl, hcv⟩ := row_form hO
    rw [hl] at hcv ⊢
    by_cases hk16 : k < 16
    · have hk16' : (k : Int) < 16 := by omega
      have hst := homes_one size k hk16 r' l'
      have HNC := hide (numS wo rb r' hR hg hN 4)
      have hN1 := rdS_ok r' 4 _ hN
      have HH := hide hH
      have HST := hide hst
      have HN1 := hide hN1
      have HOW := hide (And.intro hO (And.intro hg hW))
      have HL := hide hl
      have HRN := hide (hR.ne hg)
      clear hR hN hO hl hg hW hH hst hN1
      go_wp2_with fail
      refine (unhide HNC).mono ?_
      rintro e x1 ⟨rfl, hR1, hO1⟩
      have HR1 := hide (show Rds x1 rb (rdS r' 4) from hR1)
      have HO1 := hide (show Only (fun q => q = rb) w x1 from (unhide HOW).2.2.trans hO1 (fun _ _ q => q))
      have HRW := hide (show x1.ownsRow w.heap.size 3 1 (.slice pv k cv) l'.length (l'.map (Value.int .i64)) from owns_only (by have := (unhide HOW).1; rw [unhide HL] at this ⊢; exact this) hO1 (fun q hq e => by have := ((unhide HOW).1.lt q (by rw [unhide HL]; exact hq)).1; have e : q = rb := e; omega))
      have HG1 := hide ((unhide HOW).2.1.only hO1 (fun q => unhide HRN q.symm))
      clear hR1 hO1 HNC HOW
      obtain ⟨z, hz⟩ : ∃ z, rdV r' 4 = z := ⟨_, rfl⟩
      have hz' : (if r'.e = 0 then numV 4 r'.r else 0) = z := hz
      rw [hz']
      rw [hz] at HST
      clear hz hz'
      by_cases h18 : z = 18
      · subst h18
        have HNB := hide (show homesF size 16 r [] = homesF size (16 - (k + 1)) (rdS r' 4) (l' ++ [18]) from by rw [unhide HH, unhide HST, if_neg (fun q => q.1 rfl)])
        clear HH HST
        have HRA := hide (show (x1.alloc (.cells #[.int .i64 18] 3)).ownsRow w.heap.size 3 1 (.slice pv k cv) k (l'.map (Value.int .i64)) from by have := owns_only (unhide HRW) (Only.of_below (P := fun _ => False) ((Below.refl _ x1).alloc (Nat.le_refl _) (.cells #[.int .i64 18] 3))) (fun _ _ q => q); rw [unhide HL] at this; exact this)
        have hxs : w.heap.size ≤ (x1.alloc (.cells #[.int .i64 18] 3)).heap.size := by have := (unhide HO1).size; simp; omega
        have HXS := hide hxs
        clear hxs
        go_wp2_with (refine wpList_append_own _ rfl (.tmp 29) (.tmp 31) 39 rfl w.heap.size 3 i0 (.int .i64 0) 1 8 Tryz.underlying39 (unhide HI).1 (unhide HI).2.1 (unhide HI).2.2.1 (unhide HI).2.2.2 rfl (by decide) _ k (l'.map (Value.int .i64)) rfl (unhide HRA) ⟨x1.heap.size, 0, none⟩ 1 1 [.int .i64 18] rfl rfl (fun q u hu => news_one x1 3 _ q u hu) (by simp [Value.oneCell']) (by unfold maxLen; omega) (by omega) (unhide HXS) ?_)
        intro v5 x5 ho5 hg5 _
        have hO5 : Only (fun q => (Value.slice pv k cv).ownBlock = some q) (x1.alloc (.cells #[.int .i64 18] 3)) x5 := (Only.refl _ _).grown hg5 (fun q _ e => e)
        have hnr : ∀ q, (Value.slice pv k cv).ownBlock = some q → w.heap.size ≤ q := fun q hq => ((unhide HRA).lt q hq).1
        have HRR := hide (show HoI w rb size r (k + 1) v5 x5 from by
          refine ⟨_, _, unhide HNB, ?_, unhide HN1, ?_, by simp [unhide HL], ?_, ?_⟩
          · exact Rds.only (Rds.only (unhide HR1) ((Only.refl (fun _ => False) x1).alloc _) (fun q => q)) hO5 (fun q => by have := hnr rb q; omega)
          · simpa [unhide HL] using ho5
          · have hgv := ((unhide HG1).only ((Only.refl (fun _ => False) x1).alloc (.cells #[.int .i64 18] 3)) (fun q => q))
            exact hgv.only hO5 (fun q => by have := hnr _ q; have := unhide HGL; omega)
          · exact ((unhide HO1).alloc _).trans hO5 (fun q hq e => by have := hnr q e; omega))
        clear ho5 hg5 hO5 hnr HRA
        go_wp2
        go_roundw
        case rel => exact ⟨k + 1, by omega, by go_num, unhide HRR⟩
        case measure => simp [intOf]; omega
      · have h18b : (z != 18) = true := by simp [h18]
        have HFR := hide (fun W => isFree_any z size W)
        go_wp2_with fail
        refine (unhide HFR _).mono ?_
        rintro e x2 ⟨rfl, rfl⟩
        by_cases hfr : 19 ≤ z ∧ z < size
        · have hd : decide (19 ≤ z ∧ z < size) = true := by simp [hfr]
          rw [hd]
          clear hd
          go_wp2
          go_loopw [21] (fun i wr => ∃ m : Nat, m ≤ k ∧ i = .int .i64 (m : Int) ∧ (∀ j, j < m → l'.getD j 0 ≠ z) ∧ wr = x2) (fun i _ => k - (intOf i).toNat)
          case atStart => exact ⟨0, by omega, rfl, fun j hj => absurd hj (by omega), rfl⟩
          case round =>
            obtain ⟨m, hm, rfl, hA, rfl⟩ := hrel
            have HA := hide hA
            clear hA
            by_cases hmk : m < k
            · obtain ⟨gv, cap', ev, _⟩ := (unhide HRW).form (by rw [unhide HL]; omega)
              have hpv : pv = some ⟨gv, 0, none⟩ := by simp at ev; exact ev.1
              subst hpv
              have cm : wr.cell? ⟨gv, m, none⟩ = some (.int .i64 (l'.getD m 0)) := by
                rw [(own_at (unhide HRW) rfl m (by rw [unhide HL]; exact hmk)).1]
                have hml : m < l'.length := by rw [unhide HL]; exact hmk
                simp [List.getD_eq_getElem?_getD, hml]
              have hmk' : (m : Int) < (k : Int) := by omega
              have hm0 : 0 ≤ (m : Int) := by omega
              clear ev
              by_cases heq : l'.getD m 0 = z
              · have HIN := hide (show z ∈ l' from by rw [← heq, List.getD_eq_getElem?_getD, List.getElem?_eq_getElem (by rw [unhide HL]; exact hmk)]; exact List.getElem_mem _)
                rw [heq] at cm
                have HPO := hide (show HoP w rb (homesF size 16 r []) (.slice (some ⟨gv, 0, none⟩) k cv) wr from by
                  rw [unhide HH, unhide HST, if_pos ⟨h18, .inr (unhide HIN)⟩]
                  exact ⟨unhide HRW, unhide HR1, unhide HN1, unhide HO1⟩)
                clear HH HST HIN heq
                go_wp2
                try rw [Exit.noGoto_ret]
                go_ret
                exact ⟨_, rfl, unhide HPO⟩
              · have HA2 := hide (show ∀ j, j < m + 1 → l'.getD j 0 ≠ z from fun j hj => by
                  by_cases hjm : j = m
                  · subst hjm; exact heq
                  · exact unhide HA j (by omega))
                have hne : (l'.getD m 0 == z) = false := by simpa using heq
                generalize l'.getD m 0 = lm at *
                go_wp2
                go_roundw
                case rel => exact ⟨m + 1, by omega, by go_num, unhide HA2, by first | rfl | trivial⟩
                case measure => simp [intOf]; omega
            · have hmk' : m = k := by omega
              subst hmk'
              have HNB := hide (show homesF size 16 r [] = homesF size (16 - (m + 1)) (rdS r' 4) (l' ++ [z]) from by
                rw [unhide HH, unhide HST, if_neg (fun q => by
                  rcases q.2 with q | q
                  · exact q hfr
                  · obtain ⟨j, hj, e⟩ := List.getElem_of_mem q
                    refine unhide HA j (by rw [← unhide HL]; exact hj) ?_
                    rw [List.getD_eq_getElem?_getD, List.getElem?_eq_getElem hj]
                    exact e)])
              clear HH HST HA hmk
              have HRA := hide (show (wr.alloc (.cells #[.int .i64 z] 3)).ownsRow w.heap.size 3 1 (.slice pv m cv) m (l'.map (Value.int .i64)) from by have := owns_only (unhide HRW) (Only.of_below (P := fun _ => False) ((Below.refl _ wr).alloc (Nat.le_refl _) (.cells #[.int .i64 z] 3))) (fun _ _ q => q); rw [unhide HL] at this; exact this)
              have hxs : w.heap.size ≤ (wr.alloc (.cells #[.int .i64 z] 3)).heap.size := by have := (unhide HO1).size; simp; omega
              have HXS := hide hxs
              clear hxs
              go_wp2_with (refine wpList_append_own _ rfl (.tmp 29) (.tmp 31) 39 rfl w.heap.size 3 i0 (.int .i64 0) 1 8 Tryz.underlying39 (unhide HI).1 (unhide HI).2.1 (unhide HI).2.2.1 (unhide HI).2.2.2 rfl (by decide) _ m (l'.map (Value.int .i64)) rfl (unhide HRA) ⟨wr.heap.size, 0, none⟩ 1 1 [.int .i64 z] rfl rfl (fun q u hu => news_one wr 3 _ q u hu) (by simp [Value.oneCell']) (by unfold maxLen; omega) (by omega) (unhide HXS) ?_)
              intro v5 x5 ho5 hg5 _
              have hO5 : Only (fun q => (Value.slice pv m cv).ownBlock = some q) (wr.alloc (.cells #[.int .i64 z] 3)) x5 := (Only.refl _ _).grown hg5 (fun q _ e => e)
              have hnr : ∀ q, (Value.slice pv m cv).ownBlock = some q → w.heap.size ≤ q := fun q hq => ((unhide HRA).lt q hq).1
              have HRR := hide (show HoI w rb size r (m + 1) v5 x5 from by
                refine ⟨_, _, unhide HNB, ?_, unhide HN1, ?_, by simp [unhide HL], ?_, ?_⟩
                · exact Rds.only (Rds.only (unhide HR1) ((Only.refl (fun _ => False) wr).alloc _) (fun q => q)) hO5 (fun q => by have := hnr rb q; omega)
                · simpa [unhide HL] using ho5
                · have hgv := ((unhide HG1).only ((Only.refl (fun _ => False) wr).alloc (.cells #[.int .i64 z] 3)) (fun q => q))
                  exact hgv.only hO5 (fun q => by have := hnr _ q; have := unhide HGL; omega)
                · exact ((unhide HO1).alloc _).trans hO5 (fun q hq e => by have := hnr q e; omega))
              clear ho5 hg5 hO5 hnr HRA
              go_wp2
              go_roundw
              case rel => exact ⟨m + 1, by omega, by go_num, unhide HRR⟩
              case measure => simp [intOf]; omega
        · have hd : decide (19 ≤ z ∧ z < size) = false := by simpa using hfr
          have HPO := hide (show HoP w rb (homesF size 16 r []) (.slice pv k cv) x2 from by
            rw [unhide HH, unhide HST, if_pos ⟨h18, .inl hfr⟩]
            exact ⟨unhide HRW, unhide HR1, unhide HN1, unhide HO1⟩)
          rw [hd]
          clear HH HST hd hfr
          go_wp2
          try rw [Exit.noGoto_ret]
          go_ret
          exact ⟨_, rfl, unhide HPO⟩
    · have hk' : k = 16 := by omega
      subst hk'
      have HPO := hide (show HoP w rb (homesF size 16 r []) (.slice pv 16 cv) wo from by
        rw [hH]
        refine ⟨?_, hR, hN, hW⟩
        show wo.ownsRow w.heap.size 3 1 (.slice pv 16 cv) l'.length _
        rw [hl] at hO ⊢
        exact hO)
      clear hH hR hN hO hl hg hW hk16
      go_wp2
      try rw [Exit.noGoto_ret]
      go_ret
      exact ⟨_, rfl, unhide HPO⟩
end Go.Proofs.YtffiaogbphgmgaaGreatDoor

namespace Go.Proofs.YtffiaogbphgmgaaGreatDoor
open Go.RowKit
/-- A Writer that was made in w has laid these down, and nothing was wrong. -/
def TWr (w : World) (l : List Int) (wr : World) : Prop := ∃ v, Wtr wr w.heap.size w.heap.size v l 0 ∧ Below w.heap.size w wr
theorem TWr.start {w x1 : World} (hR : Wtr x1 w.heap.size w.heap.size (.slice none 0 0) [] 0) (hB : Below w.heap.size w x1) : TWr w [] x1 := ⟨_, hR, hB⟩
theorem TWr.bel {w wr : World} {l : List Int} (h : TWr w l wr) : Below w.heap.size w wr := by obtain ⟨_, _, h⟩ := h; exact h
theorem TWr.below {w wr w2 : World} {l : List Int} (h : TWr w l wr) (hB : Below wr.heap.size wr w2) : TWr w l w2 := by
  obtain ⟨v, h1, h2⟩ := h
  exact ⟨v, h1.only (Only.of_below (P := fun _ => False) hB) (fun _ _ q => q), h2.trans (hB.mono h2.size)⟩
theorem TWr.keep {w x x3 : World} {v : Value} {l l' : List Int} {e : Int} (h : Wtr x w.heap.size w.heap.size v l e) (hb : Below w.heap.size w x) (hP : WPost w.heap.size w.heap.size v l' 0 x x3) : TWr w l' x3 := by
  obtain ⟨v', h1, h2, _⟩ := hP
  refine ⟨v', h1, hb.trans (h2.below hb.size (fun k hk q => ?_))⟩
  rcases q with q | q
  · omega
  · have := (h.2.1.lt k q).1
    omega
theorem TWr.num {w W wr : World} {l : List Int} (h : TWr w l W) (hB : Below W.heap.size W wr) (N : Nat) (h1 : 1 ≤ N) (h8 : N ≤ 8) (L : List Int) (hf : ∀ z ∈ L, fitsP z N) (p : Option Addr) (n c : Nat) (hn : n = L.length) (hL : Inl wr p L) (hp : ∀ k o, p = some ⟨k, o, none⟩ → W.heap.size ≤ k ∨ k < w.heap.size) (hsz : l.length + 8 * L.length ≤ 140737488355328) (z : Int) (hz : z = (N : Int)) :
    Calls Tryz.prog 93 #[.pointer (some ⟨w.heap.size, 0, none⟩), .int .i64 z, .slice p n c] wr fun ev w' => ev = .returned (.tuple #[]) ∧ TWr w (l ++ outN N L) w' := by
  subst hn hz
  obtain ⟨v, g1, g2⟩ := h
  have hw : Wtr wr w.heap.size w.heap.size v l 0 := g1.only (Only.of_below (P := fun _ => False) hB) (fun _ _ q => q)
  have hb : Below w.heap.size w wr := g2.trans (hB.mono g2.size)
  have hE : errN (N : Int) L = 0 := by rw [errN, if_neg (by omega), Int.toNat_natCast, if_pos hf]
  have hF : ∀ k o, p = some ⟨k, o, none⟩ → ¬ Fp w.heap.size v k := fun k o e q => by
    have := hp k o e
    rcases q with rfl | q
    · have := g1.lt; omega
    · have := (g1.2.1.lt k q); omega
  have hq := num_any wr w.heap.size w.heap.size v l 0 hw hb.size (N : Int) L p c (by
    rcases hL with q | ⟨lb, lo, e, q1, q2⟩
    · exact .inl q
    · exact .inr ⟨lb, lo, e, q1, hF lb lo e, q2⟩) hsz
  rw [hE, Int.toNat_natCast, wl_good] at hq
  refine hq.mono ?_
  rintro ev w' ⟨rfl, hP⟩
  exact ⟨rfl, TWr.keep hw hb hP⟩
theorem TWr.done {w wr : World} {l : List Int} (h : TWr w l wr) :
    Calls Tryz.prog 94 #[.pointer (some ⟨w.heap.size, 0, none⟩)] wr fun ev w' => ev = .returned (.tuple #[.string (strOfNums l), .int .i64 0]) ∧ Below wr.heap.size wr w' := by
  obtain ⟨v, hw, hb⟩ := h
  exact (done_any wr w.heap.size w.heap.size v l 0 hw).mono (fun ev w' h => h)
theorem inl_new (x : World) (z : Int) : Inl (x.alloc (Obj.cells #[.int .i64 z] 3)) (some ⟨x.heap.size, 0, none⟩) [z] := by
  refine .inr ⟨_, 0, rfl, (Blk.new x 3 #[.int .i64 z]).lt, fun j hj => ?_⟩
  obtain rfl : j = 0 := by simpa using hj
  rw [Nat.zero_add, (Blk.new x 3 #[.int .i64 z]).cell 0]
  rfl
end Go.Proofs.YtffiaogbphgmgaaGreatDoor

namespace Go.Proofs.YtffiaogbphgmgaaGreatDoor
open Go.RowKit
theorem rep_zero (c : Nat) : (⟨(Lib.repeatL (ByteArray.mk #[0]).data.toList c).toArray⟩ : ByteArray) = strOfNums (List.replicate c 0) := by
  have h : Lib.repeatL (ByteArray.mk #[0]).data.toList c = List.replicate c 0 := by
    have := Lib.repeatL_replicate 0 1 c
    rw [Nat.mul_one] at this
    exact this
  rw [h, strOfNums]
  simp
theorem rep_ok : RepOk := by
  intro c W hc
  have h := Tryz.strings_Repeat ⟨#[0]⟩ c W (by omega) (by show 1 * c ≤ _; omega)
  rw [rep_zero] at h
  exact h
end Go.Proofs.YtffiaogbphgmgaaGreatDoor

namespace Go.Proofs.YtffiaogbphgmgaaGreatDoor
open Go.RowKit
/-- The bytes of a head with a number, and where its records belong. -/
def headL (H : List Int) : List Int := if H.length = 0 then [0] else [1] ++ outN 4 H
def headB (n : Nat) (H : List Int) : ByteArray := strOfNums (makeL 2 (n : Int) (headL H))
theorem num1 (z : Int) (h0 : 0 ≤ z) (h1 : z < 256) : numB z 1 = [z] := by
  simp [numB]
  omega
theorem fits1j (z : Int) (h0 : 0 ≤ z) (h1 : z < 256) : fitsP z 1 := ⟨h0, by
  have e : (2 : Int) ^ (8 * 1) = 256 := by decide
  rw [e]
  omega⟩
theorem fits4j (z : Int) (h0 : 0 ≤ z) (h1 : z < 4294967296) : fitsP z 4 := ⟨h0, by
  have e : (2 : Int) ^ (8 * 4) = 4294967296 := by decide
  rw [e]
  omega⟩
theorem bytes_of {l : List Int} (h : ∀ x ∈ l, 0 ≤ x ∧ x < 256) : Bytes l := by
  intro j
  rw [List.getD_eq_getElem?_getD]
  cases e : l[j]? with
  | none => simp
  | some x => exact h x (List.mem_of_getElem? e)
theorem numB_memb (v : Int) (k : Nat) : ∀ x ∈ numB v k, 0 ≤ x ∧ x < 256 := fun x hx => by
  obtain ⟨j, hj, e⟩ := List.getElem_of_mem hx
  have := numB_bytes v k j
  rw [List.getD_eq_getElem?_getD, List.getElem?_eq_getElem hj, e] at this
  simpa using this
theorem headL_bytes (H : List Int) : Bytes (headL H) := bytes_of (fun x hx => by
  unfold headL at hx
  split at hx
  · simp at hx; omega
  · rcases List.mem_append.1 hx with hx | hx
    · simp at hx; omega
    · obtain ⟨n, _, h⟩ := List.mem_flatMap.1 hx
      exact numB_memb n 4 x h)
theorem headL_len (H : List Int) (h : H.length ≤ 60) : (headL H).length ≤ 244 := by
  unfold headL
  split
  · simp
  · rw [List.length_append, outN_len]
    simp
    omega
theorem headB_size (n : Nat) (H : List Int) (h : H.length ≤ 60) : (headB n H).size = 256 := by
  rw [headB, strOfNums_size, makeL_len _ _ _ (headL_len H h)]
theorem outN_one (z : Int) (h0 : 0 ≤ z) (h1 : z < 256) : [] ++ outN 1 [z] = [z] := by
  rw [List.nil_append]
  show numB z 1 ++ [] = [z]
  rw [List.append_nil, num1 z h0 h1]
theorem headL_nil : headL [] = [0] := by simp [headL]
theorem headB_eq (n : Nat) (H : List Int) (bd : ByteArray) (h : strOfNums (headL H) = bd) : strOfNums (makeL 2 (n : Int) (nums bd)) = headB n H := by
  subst h
  unfold headB
  rw [nums_strOfNums _ (headL_bytes H)]
set_option maxRecDepth 100000 in
set_option maxHeartbeats 400000 in
theorem isSet_any (n : Int) (p : Option Addr) (k c : Nat) (w : World) :
    Calls Tryz.prog 72 #[.agg #[.int .u32 n, .slice p k c]] w fun e w' => e = .returned (.bool (decide (0 < k))) ∧ Below w.heap.size w w' := by
  go_enter Tryz.func72, Tryz.ntmps72
  go_wp2
  go_ret
  exact ⟨rfl, (Below.refl _ _).alloc (Nat.le_refl _) _⟩
set_option maxRecDepth 100000 in
set_option maxHeartbeats 400000 in
theorem clearHead_any (n : Int) (w : World) :
    Calls Tryz.prog 52 #[.int .u32 n] w fun e w' => e = .returned (.agg #[.int .u32 n, .slice none 0 0]) ∧ Below w.heap.size w w' := by
  go_enter Tryz.func52, Tryz.ntmps52
  go_wp2
  have B := Blk.new w 95 #[.int .u32 n, .slice none 0 0]
  have hld := load_blk 95 _ B Tryz.underlying95 rfl (by kernel_rfl)
  refine bodyPost_ret (v := .agg #[.int .u32 n, .slice none 0 0]) (results_cell rfl _ _ _ ⟨w.heap.size, 0, none⟩ rfl _ hld) rfl ⟨rfl, ?_⟩
  exact (Below.refl _ w).alloc (Nat.le_refl _) _
set_option maxRecDepth 100000 in
set_option maxHeartbeats 400000 in
theorem setHead_any (n : Int) (w : World) (p : Option Addr) (c : Nat) (l : List Wr1) (m : Nat) (hm : m = l.length) (hl : Wls w p l) (hz : l.length ≤ 1000000) :
    Calls Tryz.prog 50 #[.int .u32 n, .slice p m c] w fun e w' => e = .returned (.agg #[.int .u32 n, .slice (some ⟨w.heap.size + 1, 0, none⟩) m m]) ∧ Blk w' (w.heap.size + 1) ((secs l).map (Value.int .i64)).toArray 3 ∧ Below w.heap.size w w' := by
  obtain ⟨x0, hx0⟩ : ∃ x, x = w.alloc (Obj.cells #[.int .u32 0, .slice none 0 0] 95) := ⟨_, rfl⟩
  have hs0 : x0.heap.size = w.heap.size + 1 := by rw [hx0]; simp
  have hb0 : Below w.heap.size w x0 := by rw [hx0]; exact (Below.refl _ w).alloc (Nat.le_refl _) _
  have B0 : Blk x0 w.heap.size #[.int .u32 0, .slice none 0 0] 95 := by rw [hx0]; exact Blk.new w _ _
  have HC := hide (sectorsOf_any x0 p c l m hm (hl.below hb0) hz)
  have HX := hide (And.intro hs0 (And.intro hb0 B0))
  clear hs0 hb0 B0 hl hz hm
  go_enter Tryz.func50, Tryz.ntmps50
  go_wp2_with fail
  rw [← hx0]
  replace hx0 := hide hx0
  refine (unhide HC).mono ?_
  rintro e x1 ⟨rfl, hB1, hb1⟩
  have hs1 := (unhide HX).1
  have hlt : w.heap.size < x0.heap.size := by omega
  have BH := (unhide HX).2.2.below hb1 hlt
  have q0 : x1.cell? ⟨w.heap.size, 0, none⟩ = some (.int .u32 0) := BH.cell 0
  have q1 : x1.cell? ⟨w.heap.size, 1, none⟩ = some (.slice none 0 0) := BH.cell 1
  have p0 := BH.frozen 0
  have p1 := BH.frozen 1
  have HB := hide (And.intro BH (And.intro hB1 hb1))
  have hg : x0.heap.size = w.heap.size + 1 := hs1
  have HG := hide hg
  rw [hg]
  clear BH hB1 hb1 hs1 hlt hg
  go_wp2
  have B := ((unhide HB).1.set 0 (.int .u32 n)).set 1 (.slice (some ⟨w.heap.size + 1, 0, none⟩) m m)
  have hld := load_blk 95 _ B Tryz.underlying95 rfl (by kernel_rfl)
  refine bodyPost_ret (v := .agg #[.int .u32 n, .slice (some ⟨w.heap.size + 1, 0, none⟩) m m]) (results_cell rfl _ _ _ ⟨w.heap.size, 0, none⟩ rfl _ hld) rfl ⟨rfl, ?_, ?_⟩
  · have := (unhide HB).2.1
    rw [unhide HG] at this
    exact (this.other _ _ (by show w.heap.size ≠ w.heap.size + 1; omega)).other _ _ (by show w.heap.size ≠ w.heap.size + 1; omega)
  · exact (((unhide HX).2.1.trans ((unhide HB).2.2.mono (unhide HX).2.1.size)).setCell (Nat.le_refl _) _).setCell (Nat.le_refl _) _
set_option maxRecDepth 100000 in
set_option maxHeartbeats 400000 in
theorem hwrite_clear (n : Nat) (hn : n < 4294967296) (p : Option Addr) (c : Nat) (w : World) :
    Calls Tryz.prog 51 #[.agg #[.int .u32 (n : Int), .slice p 0 c]] w fun e w' => e = .returned (.agg #[.int .i64 1, .string (headB n [])]) ∧ Below w.heap.size w w' := by
  obtain ⟨x0, hx0⟩ : ∃ x, x = (w.alloc (Obj.cells #[.int .u32 (n : Int), .slice p 0 c] 95)).alloc (Obj.cells #[.int .i64 0, .string ⟨#[]⟩] 49) := ⟨_, rfl⟩
  have hs0 : x0.heap.size = w.heap.size + 1 + 1 := by rw [hx0]; simp
  have hb0 : Below w.heap.size w x0 := by rw [hx0]; exact ((Below.refl _ w).alloc (Nat.le_refl _) _).alloc (by simp) _
  have BH0 : Blk x0 w.heap.size #[.int .u32 (n : Int), .slice p 0 c] 95 := by rw [hx0]; exact (Blk.new w _ _).alloc _
  have BW0 : Blk x0 (w.heap.size + 1) #[.int .i64 0, .string ⟨#[]⟩] 49 := by
    rw [hx0]
    have := Blk.new (w.alloc (Obj.cells #[.int .u32 (n : Int), .slice p 0 c] 95)) 49 #[.int .i64 0, .string ⟨#[]⟩]
    simpa using this
  have HX := hide (And.intro hs0 (And.intro hb0 (And.intro BH0 BW0)))
  have HNW := hide (newWriter_any x0)
  have HIS := hide (fun W => isSet_any (n : Int) p 0 c W)
  have HMK := hide (fun (W : World) => make_ok rep_ok 2 (n : Int) (strOfNums (headL [])) (fits1j 2 (by decide) (by decide)) (fits4j _ (by omega) (by omega)) (by rw [strOfNums_size]; exact headL_len [] (by simp)) W)
  obtain ⟨bd, hbd⟩ : ∃ bd, strOfNums (headL []) = bd := ⟨_, rfl⟩
  have hhb := headB_eq n [] bd hbd
  rw [hbd, hhb] at HMK
  have HBD := hide hbd
  generalize headB n [] = hb at *
  clear hs0 hb0 BH0 BW0 hbd hhb
  go_enter Tryz.func51, Tryz.ntmps51
  go_wp2_with fail
  rw [← hx0]
  replace hx0 := hide hx0
  refine (unhide HNW).mono ?_
  rintro e x1 ⟨rfl, hR1, hB1, hz1⟩
  have X1 := hide (TWr.start hR1 hB1)
  clear hR1 hB1 HNW hz1
  have hl0 : w.heap.size < x0.heap.size ∧ w.heap.size + 1 < x0.heap.size := by have := (unhide HX).1; omega
  have HL0 := hide hl0
  have BH1 := (unhide HX).2.2.1.below (unhide X1).bel hl0.1
  have c0 : x1.cell? ⟨w.heap.size, 0, none⟩ = some (.int .u32 (n : Int)) := BH1.cell 0
  have c1 : x1.cell? ⟨w.heap.size, 1, none⟩ = some (.slice p 0 c) := BH1.cell 1
  clear BH1 hl0
  go_wp2_with fail
  refine (unhide HIS _).mono ?_
  rintro e x2 ⟨rfl, hB2⟩
  have X2 := hide ((unhide X1).below hB2)
  clear hB2 X1 c0 c1
  go_wp2_with fail
  refine ((unhide X2).num ((Below.refl _ x2).alloc (Nat.le_refl _) _) 1 (by decide) (by decide) [0] (fun z hz => by simp at hz; subst hz; exact fits1j 0 (by decide) (by decide)) _ 1 1 rfl (inl_new x2 0) (fun k o q => by cases q; exact .inl (Nat.le_refl _)) (by decide) 1 rfl).mono ?_
  rintro e x4 ⟨rfl, h4⟩
  rw [outN_one 0 (by decide) (by decide), ← headL_nil] at h4
  have X4 := hide h4
  clear h4 X2
  go_wp2_with fail
  refine ((unhide X4).done).mono ?_
  rintro e x5 ⟨rfl, hB5⟩
  rw [unhide HBD]
  have X5 := hide ((unhide X4).below hB5)
  clear hB5 X4
  have BH5 := (unhide HX).2.2.1.below (unhide X5).bel (unhide HL0).1
  have c0 : x5.cell? ⟨w.heap.size, 0, none⟩ = some (.int .u32 (n : Int)) := BH5.cell 0
  have hcv : IntKind.i64.wrap (n : Int) = (n : Int) := wrapI_eq _ (by omega) (by omega)
  clear BH5
  go_wp2_with fail
  refine (unhide HMK _).mono ?_
  rintro e x6 ⟨rfl, hB6⟩
  have X6 := hide ((unhide X5).below hB6)
  clear hB6 X5 c0
  have BW6 := (unhide HX).2.2.2.below (unhide X6).bel (unhide HL0).2
  have q0 : x6.cell? ⟨w.heap.size + 1, 0, none⟩ = some (.int .i64 0) := BW6.cell 0
  have q1 : x6.cell? ⟨w.heap.size + 1, 1, none⟩ = some (.string ⟨#[]⟩) := BW6.cell 1
  have p0 := BW6.frozen 0
  have p1 := BW6.frozen 1
  have HB := hide BW6
  clear BW6
  go_wp2
  have B := ((unhide HB).set 0 (.int .i64 1)).set 1 (.string hb)
  have hld := load_blk 49 _ B Tryz.underlying49 rfl (by kernel_rfl)
  refine bodyPost_ret (v := .agg #[.int .i64 1, .string hb]) (results_cell rfl _ _ _ ⟨w.heap.size + 1, 0, none⟩ rfl _ hld) rfl ⟨rfl, ?_⟩
  exact (((unhide HX).2.1.trans ((unhide X6).bel.mono (unhide HX).2.1.size)).setCell (by show w.heap.size ≤ w.heap.size + 1; omega) _).setCell (by show w.heap.size ≤ w.heap.size + 1; omega) _
set_option maxRecDepth 100000 in
set_option maxHeartbeats 400000 in
theorem hwrite_set (n : Nat) (hn : n < 4294967296) (p : Option Addr) (c : Nat) (w : World) (H : List Int) (m : Nat) (hm : m = H.length) (h0 : 0 < m) (hH : Inl w p H) (hlt : ∀ k o, p = some ⟨k, o, none⟩ → k < w.heap.size) (hf : ∀ z ∈ H, fitsP z 4) (hl : H.length ≤ 60) :
    Calls Tryz.prog 51 #[.agg #[.int .u32 (n : Int), .slice p m c]] w fun e w' => e = .returned (.agg #[.int .i64 1, .string (headB n H)]) ∧ Below w.heap.size w w' := by
  obtain ⟨x0, hx0⟩ : ∃ x, x = (w.alloc (Obj.cells #[.int .u32 (n : Int), .slice p m c] 95)).alloc (Obj.cells #[.int .i64 0, .string ⟨#[]⟩] 49) := ⟨_, rfl⟩
  have hs0 : x0.heap.size = w.heap.size + 1 + 1 := by rw [hx0]; simp
  have hb0 : Below w.heap.size w x0 := by rw [hx0]; exact ((Below.refl _ w).alloc (Nat.le_refl _) _).alloc (by simp) _
  have BH0 : Blk x0 w.heap.size #[.int .u32 (n : Int), .slice p m c] 95 := by rw [hx0]; exact (Blk.new w _ _).alloc _
  have BW0 : Blk x0 (w.heap.size + 1) #[.int .i64 0, .string ⟨#[]⟩] 49 := by
    rw [hx0]
    have := Blk.new (w.alloc (Obj.cells #[.int .u32 (n : Int), .slice p m c] 95)) 49 #[.int .i64 0, .string ⟨#[]⟩]
    simpa using this
  have HX := hide (And.intro hs0 (And.intro hb0 (And.intro BH0 BW0)))
  have HNW := hide (newWriter_any x0)
  have HIS := hide (fun W => isSet_any (n : Int) p m c W)
  have HMK := hide (fun (W : World) => make_ok rep_ok 2 (n : Int) (strOfNums (headL H)) (fits1j 2 (by decide) (by decide)) (fits4j _ (by omega) (by omega)) (by rw [strOfNums_size]; exact headL_len H hl) W)
  obtain ⟨bd, hbd⟩ : ∃ bd, strOfNums (headL H) = bd := ⟨_, rfl⟩
  have hhb := headB_eq n H bd hbd
  rw [hbd, hhb] at HMK
  have HBD := hide hbd
  generalize headB n H = hb at *
  clear hs0 hb0 BH0 BW0 hbd hhb
  have hm0 : (decide (0 < m)) = true := by simp; omega
  rw [hm0] at HIS
  have HHH := hide (And.intro hH (And.intro hlt (And.intro hf (And.intro hl hm))))
  clear hH hlt hf hl hm0 hm
  go_enter Tryz.func51, Tryz.ntmps51
  go_wp2_with fail
  rw [← hx0]
  replace hx0 := hide hx0
  refine (unhide HNW).mono ?_
  rintro e x1 ⟨rfl, hR1, hB1, hz1⟩
  have X1 := hide (TWr.start hR1 hB1)
  clear hR1 hB1 HNW hz1
  have hl0 : w.heap.size < x0.heap.size ∧ w.heap.size + 1 < x0.heap.size := by have := (unhide HX).1; omega
  have HL0 := hide hl0
  have BH1 := (unhide HX).2.2.1.below (unhide X1).bel hl0.1
  have c0 : x1.cell? ⟨w.heap.size, 0, none⟩ = some (.int .u32 (n : Int)) := BH1.cell 0
  have c1 : x1.cell? ⟨w.heap.size, 1, none⟩ = some (.slice p m c) := BH1.cell 1
  clear BH1 hl0
  go_wp2_with fail
  refine (unhide HIS _).mono ?_
  rintro e x2 ⟨rfl, hB2⟩
  have X2 := hide ((unhide X1).below hB2)
  clear hB2 X1 c0 c1
  go_wp2_with fail
  refine ((unhide X2).num ((Below.refl _ x2).alloc (Nat.le_refl _) _) 1 (by decide) (by decide) [1] (fun z hz => by simp at hz; subst hz; exact fits1j 1 (by decide) (by decide)) _ 1 1 rfl (inl_new x2 1) (fun k o q => by cases q; exact .inl (Nat.le_refl _)) (by decide) 1 rfl).mono ?_
  rintro e x3 ⟨rfl, h3⟩
  rw [outN_one 1 (by decide) (by decide)] at h3
  have X3 := hide h3
  clear h3 X2
  have BH3 := (unhide HX).2.2.1.below (unhide X3).bel (unhide HL0).1
  have c1 : x3.cell? ⟨w.heap.size, 1, none⟩ = some (.slice p m c) := BH3.cell 1
  have hI3 : Inl x3 p H := (unhide HHH).1.below ((unhide HX).2.1.trans ((unhide X3).bel.mono (unhide HX).2.1.size)) (fun _ => (unhide HHH).2.1)
  have HI3 := hide hI3
  clear BH3 hI3
  go_wp2_with fail
  refine ((unhide X3).num (Below.refl _ x3) 4 (by decide) (by decide) H (unhide HHH).2.2.1 p m c (unhide HHH).2.2.2.2 (unhide HI3) (fun k o q => .inr (by have := (unhide HHH).2.1 k o q; have := (unhide HL0).1; omega)) (by have := (unhide HHH).2.2.2.1; show 1 + 8 * H.length ≤ _; omega) 4 rfl).mono ?_
  rintro e x4 ⟨rfl, h4⟩
  have X4 := hide (show TWr x0 (headL H) x4 from by
    rw [headL, if_neg (by have := (unhide HHH).2.2.2.2; omega)]
    exact h4)
  clear h4 X3 c1 HI3
  go_wp2_with fail
  refine ((unhide X4).done).mono ?_
  rintro e x5 ⟨rfl, hB5⟩
  rw [unhide HBD]
  have X5 := hide ((unhide X4).below hB5)
  clear hB5 X4
  have BH5 := (unhide HX).2.2.1.below (unhide X5).bel (unhide HL0).1
  have c0 : x5.cell? ⟨w.heap.size, 0, none⟩ = some (.int .u32 (n : Int)) := BH5.cell 0
  have hcv : IntKind.i64.wrap (n : Int) = (n : Int) := wrapI_eq _ (by omega) (by omega)
  clear BH5
  go_wp2_with fail
  refine (unhide HMK _).mono ?_
  rintro e x6 ⟨rfl, hB6⟩
  have X6 := hide ((unhide X5).below hB6)
  clear hB6 X5 c0
  have BW6 := (unhide HX).2.2.2.below (unhide X6).bel (unhide HL0).2
  have q0 : x6.cell? ⟨w.heap.size + 1, 0, none⟩ = some (.int .i64 0) := BW6.cell 0
  have q1 : x6.cell? ⟨w.heap.size + 1, 1, none⟩ = some (.string ⟨#[]⟩) := BW6.cell 1
  have p0 := BW6.frozen 0
  have p1 := BW6.frozen 1
  have HB := hide BW6
  clear BW6
  go_wp2
  have B := ((unhide HB).set 0 (.int .i64 1)).set 1 (.string hb)
  have hld := load_blk 49 _ B Tryz.underlying49 rfl (by kernel_rfl)
  refine bodyPost_ret (v := .agg #[.int .i64 1, .string hb]) (results_cell rfl _ _ _ ⟨w.heap.size + 1, 0, none⟩ rfl _ hld) rfl ⟨rfl, ?_⟩
  exact (((unhide HX).2.1.trans ((unhide X6).bel.mono (unhide HX).2.1.size)).setCell (by show w.heap.size ≤ w.heap.size + 1; omega) _).setCell (by show w.heap.size ≤ w.heap.size + 1; omega) _
end Go.Proofs.YtffiaogbphgmgaaGreatDoor
