import Derived.Test.YtiellebdliifdaaGreatDoorMt12
import Derived.Test.YtiellebdliifdaaGreatDoorMt04
import Derived.WalkMore
namespace Go.Proofs.YtiellebdliifdaaGreatDoor
open Go.RowKit
def rdV (r : RSt) (k : Int) : Int := if r.e = 0 then numV k r.r else 0
def rdS (r : RSt) (k : Int) : RSt := stepR r (numE k r.r) k.toNat
def badP (size : Int) (l : List Int) (z : Int) : Prop := z ≠ 18 ∧ (¬ (19 ≤ z ∧ z < size) ∨ z ∈ l)
instance (size : Int) (l : List Int) (z : Int) : Decidable (badP size l z) := inferInstanceAs (Decidable (_ ∧ _))
def homesF (size : Int) : Nat → RSt → List Int → RSt × List Int
 | 0, r, l => (r, l)
 | k + 1, r, l => if badP size l (rdV r 4) then (rdS r 4, l) else homesF size k (rdS r 4) (l ++ [rdV r 4])
theorem rdS_ok (r : RSt) (k : Int) (N : Nat) (h : r.ok N) : (rdS r k).ok N := stepR_ok r _ _ N h (fun e => (numE_le k r.r e).1)
def HoI (w : World) (rb : Nat) (size : Int) (r0 : RSt) (k : Nat) (v : Value) (wr : World) : Prop :=
 ∃ r' l', homesF size 16 r0 [] = homesF size (16 - k) r' l' ∧ Rds wr rb r' ∧ r'.ok 9223372036854775807 ∧ wr.ownsRow w.heap.size 3 1 v l'.length (l'.map (Value.int .i64)) ∧ l'.length = k ∧ ETy wr ∧ Only (fun q => q = rb) w wr
def HoP (w : World) (rb : Nat) (H : RSt × List Int) (v : Value) (w' : World) : Prop := w'.ownsRow w.heap.size 3 1 v H.2.length (H.2.map (Value.int .i64)) ∧ Rds w' rb H.1 ∧ H.1.ok 9223372036854775807 ∧ Only (fun q => q = rb) w w'
theorem infoI3h : (Tryz.prog.info? 3).map (fun i => (i.zero, i.size, i.bytes)) = some (some (.int .i64 0), 1, 8) := by kernel_rfl
theorem news_one (w : World) (T : TypeId) (x : Value) (j : Nat) (u : Value) (hu : [x][j]? = some u) : (w.alloc (.cells #[x] T)).cell? (Addr.add ⟨w.heap.size, 0, none⟩ j) = some u := by
 rw [Addr.add_mid, Nat.zero_add, (Blk.new w T #[x]).cell j]
 simpa using hu
theorem homes_one (size : Int) (k : Nat) (hk : k < 16) (r : RSt) (l : List Int) : homesF size (16 - k) r l = if badP size l (rdV r 4) then (rdS r 4, l) else homesF size (16 - (k + 1)) (rdS r 4) (l ++ [rdV r 4]) := by
 rw [show 16 - k = (16 - (k + 1)) + 1 by omega, homesF]
set_option maxRecDepth 100000 in
set_option maxHeartbeats 2000000 in
theorem readHomes_any (w : World) (rb : Nat) (r : RSt) (h : Rds w rb r) (hg : ETy w) (hN : r.ok 9223372036854775807) (size : Int) :
  Calls Tryz.prog 188 #[.pointer (some ⟨rb, 0, none⟩), .int .i64 size] w fun e w' => ∃ v, e = .returned v ∧ HoP w rb (homesF size 16 r []) v w' := by
 have hrl : rb < w.heap.size := Blk.lt h
 have X0 := hide (show HoI w rb size r 0 (.slice none 0 0) w from ⟨r, [], rfl, h, hN, World.ownsRow_nil _ _ _ _, rfl, hg, Only.refl _ _⟩)
 have HGL := hide hg.lt
 clear h hg hN
 obtain ⟨i0, hi0, hz0, hz1, hz2⟩ := info_parts infoI3h
 have HI := hide (And.intro hi0 (And.intro hz0 (And.intro hz1 hz2)))
 clear hi0 hz0 hz1 hz2
 go_enter Tryz.func188, Tryz.ntmps188
 go_wp2
 go_step3
 go_wp2
 go_step3
 go_wp2
 go_loopw [5, 9] (fun u i wr => ∃ k : Nat, k ≤ 16 ∧ i = .int .i64 (k : Int) ∧ HoI w rb size r k u wr) (fun _ i _ => 16 - (intOf i).toNat)
 case atStart => exact ⟨0, by omega, rfl, unhide X0⟩
 case round =>
  obtain ⟨k, hk, rfl, r', l', hH, hR, hN, hO, hl, hg, hW⟩ := hrel
  obtain ⟨wo, rfl⟩ : ∃ wo, wo = wr := ⟨_, rfl⟩
  clear X0
  obtain ⟨pv, cv, rfl, hcv⟩ := row_form hO
  rw [hl] at hcv ⊢
  by_cases hk16 : k < 16
  ·have hk16' : (k : Int) < 16 := by omega
   have hst := homes_one size k hk16 r' l'
   have HNC := hide (numS wo rb r' hR hg hN 4)
   have hN1 := rdS_ok r' 4 _ hN
   have HH := hide hH
   have HST := hide hst
   have HN1 := hide hN1
   have HOW := hide (And.intro hO (And.intro hg hW))
   have HL := hide hl
   have HRN := hide (hR.ne hg)
   clear hR hN hO hl hg hW hH hst hN1
   go_wp2_with fail
   refine (unhide HNC).mono ?_
   rintro e x1 ⟨rfl, hR1, hO1⟩
   have HR1 := hide (show Rds x1 rb (rdS r' 4) from hR1)
   have HO1 := hide (show Only (fun q => q = rb) w x1 from (unhide HOW).2.2.trans hO1 (fun _ _ q => q))
   have HRW := hide (show x1.ownsRow w.heap.size 3 1 (.slice pv k cv) l'.length (l'.map (Value.int .i64)) from owns_only (by have := (unhide HOW).1; rw [unhide HL] at this ⊢; exact this) hO1 (fun q hq e => by have := ((unhide HOW).1.lt q (by rw [unhide HL]; exact hq)).1; have e : q = rb := e; omega))
   have HG1 := hide ((unhide HOW).2.1.only hO1 (fun q => unhide HRN q.symm))
   clear hR1 hO1 HNC HOW
   obtain ⟨z, hz⟩ : ∃ z, rdV r' 4 = z := ⟨_, rfl⟩
   have hz' : (if r'.e = 0 then numV 4 r'.r else 0) = z := hz
   rw [hz']
   rw [hz] at HST
   clear hz hz'
   by_cases h18 : z = 18
   ·subst h18
    have HNB := hide (show homesF size 16 r [] = homesF size (16 - (k + 1)) (rdS r' 4) (l' ++ [18]) from by rw [unhide HH, unhide HST, if_neg (fun q => q.1 rfl)])
    clear HH HST
    have HRA := hide (show (x1.alloc (.cells #[.int .i64 18] 3)).ownsRow w.heap.size 3 1 (.slice pv k cv) k (l'.map (Value.int .i64)) from by have := owns_only (unhide HRW) (Only.of_below (P := fun _ => False) ((Below.refl _ x1).alloc (Nat.le_refl _) (.cells #[.int .i64 18] 3))) (fun _ _ q => q); rw [unhide HL] at this; exact this)
    have hxs : w.heap.size ≤ (x1.alloc (.cells #[.int .i64 18] 3)).heap.size := by have := (unhide HO1).size; simp; omega
    have HXS := hide hxs
    clear hxs
    go_wp2_with (refine wpList_append_own _ rfl (.tmp 29) (.tmp 31) 22 rfl w.heap.size 3 i0 (.int .i64 0) 1 8 Tryz.underlying22 (unhide HI).1 (unhide HI).2.1 (unhide HI).2.2.1 (unhide HI).2.2.2 rfl (by decide) _ k (l'.map (Value.int .i64)) rfl (unhide HRA) ⟨x1.heap.size, 0, none⟩ 1 1 [.int .i64 18] rfl rfl (fun q u hu => news_one x1 3 _ q u hu) (by simp [Value.oneCell']) (by unfold maxLen; omega) (by omega) (unhide HXS) ?_)
    intro v5 x5 ho5 hg5 _
    have hO5 : Only (fun q => (Value.slice pv k cv).ownBlock = some q) (x1.alloc (.cells #[.int .i64 18] 3)) x5 := (Only.refl _ _).grown hg5 (fun q _ e => e)
    have hnr : ∀ q, (Value.slice pv k cv).ownBlock = some q → w.heap.size ≤ q := fun q hq => ((unhide HRA).lt q hq).1
    have HRR := hide (show HoI w rb size r (k + 1) v5 x5 from by
     refine ⟨_, _, unhide HNB, ?_, unhide HN1, ?_, by simp [unhide HL], ?_, ?_⟩
     ·exact Rds.only (Rds.only (unhide HR1) ((Only.refl (fun _ => False) x1).alloc _) (fun q => q)) hO5 (fun q => by have := hnr rb q; omega)
     ·simpa [unhide HL] using ho5
     ·have hgv := ((unhide HG1).only ((Only.refl (fun _ => False) x1).alloc (.cells #[.int .i64 18] 3)) (fun q => q))
      exact hgv.only hO5 (fun q => by have := hnr _ q; have := unhide HGL; omega)
     ·exact ((unhide HO1).alloc _).trans hO5 (fun q hq e => by have := hnr q e; omega))
    clear ho5 hg5 hO5 hnr HRA
    go_wp2
    go_roundw
    case rel => exact ⟨k + 1, by omega, by go_num, unhide HRR⟩
    case measure => simp [intOf]; omega
   ·have h18b : (z != 18) = true := by simp [h18]
    have HFR := hide (fun W => isFree_any z size W)
    go_wp2_with fail
    refine (unhide HFR _).mono ?_
    rintro e x2 ⟨rfl, rfl⟩
    by_cases hfr : 19 ≤ z ∧ z < size
    ·have hd : decide (19 ≤ z ∧ z < size) = true := by simp [hfr]
     rw [hd]
     clear hd
     go_wp2
     go_loopw [21] (fun i wr => ∃ m : Nat, m ≤ k ∧ i = .int .i64 (m : Int) ∧ (∀ j, j < m → l'.getD j 0 ≠ z) ∧ wr = x2) (fun i _ => k - (intOf i).toNat)
     case atStart => exact ⟨0, by omega, rfl, fun j hj => absurd hj (by omega), rfl⟩
     case round =>
      obtain ⟨m, hm, rfl, hA, rfl⟩ := hrel
      have HA := hide hA
      clear hA
      by_cases hmk : m < k
      ·obtain ⟨gv, cap', ev, _⟩ := (unhide HRW).form (by rw [unhide HL]; omega)
       have hpv : pv = some ⟨gv, 0, none⟩ := by simp at ev; exact ev.1
       subst hpv
       have cm : wr.cell? ⟨gv, m, none⟩ = some (.int .i64 (l'.getD m 0)) := by
        rw [(own_at (unhide HRW) rfl m (by rw [unhide HL]; exact hmk)).1]
        have hml : m < l'.length := by rw [unhide HL]; exact hmk
        simp [List.getD_eq_getElem?_getD, hml]
       have hmk' : (m : Int) < (k : Int) := by omega
       have hm0 : 0 ≤ (m : Int) := by omega
       clear ev
       by_cases heq : l'.getD m 0 = z
       ·have HIN := hide (show z ∈ l' from by rw [← heq, List.getD_eq_getElem?_getD, List.getElem?_eq_getElem (by rw [unhide HL]; exact hmk)]; exact List.getElem_mem _)
        rw [heq] at cm
        have HPO := hide (show HoP w rb (homesF size 16 r []) (.slice (some ⟨gv, 0, none⟩) k cv) wr from by
         rw [unhide HH, unhide HST, if_pos ⟨h18, .inr (unhide HIN)⟩]
         exact ⟨unhide HRW, unhide HR1, unhide HN1, unhide HO1⟩)
        clear HH HST HIN heq
        go_wp2
        try rw [Exit.noGoto_ret]
        go_ret
        exact ⟨_, rfl, unhide HPO⟩
       ·have HA2 := hide (show ∀ j, j < m + 1 → l'.getD j 0 ≠ z from fun j hj => by
         by_cases hjm : j = m
         ·subst hjm; exact heq
         ·exact unhide HA j (by omega))
        have hne : (l'.getD m 0 == z) = false := by simpa using heq
        generalize l'.getD m 0 = lm at *
        go_wp2
        go_roundw
        case rel => exact ⟨m + 1, by omega, by go_num, unhide HA2, by first | rfl | trivial⟩
        case measure => simp [intOf]; omega
      ·have hmk' : m = k := by omega
       subst hmk'
       have HNB := hide (show homesF size 16 r [] = homesF size (16 - (m + 1)) (rdS r' 4) (l' ++ [z]) from by
        rw [unhide HH, unhide HST, if_neg (fun q => by
         rcases q.2 with q | q
         ·exact q hfr
         ·obtain ⟨j, hj, e⟩ := List.getElem_of_mem q
          refine unhide HA j (by rw [← unhide HL]; exact hj) ?_
          rw [List.getD_eq_getElem?_getD, List.getElem?_eq_getElem hj]
          exact e)])
       clear HH HST HA hmk
       have HRA := hide (show (wr.alloc (.cells #[.int .i64 z] 3)).ownsRow w.heap.size 3 1 (.slice pv m cv) m (l'.map (Value.int .i64)) from by have := owns_only (unhide HRW) (Only.of_below (P := fun _ => False) ((Below.refl _ wr).alloc (Nat.le_refl _) (.cells #[.int .i64 z] 3))) (fun _ _ q => q); rw [unhide HL] at this; exact this)
       have hxs : w.heap.size ≤ (wr.alloc (.cells #[.int .i64 z] 3)).heap.size := by have := (unhide HO1).size; simp; omega
       have HXS := hide hxs
       clear hxs
       go_wp2_with (refine wpList_append_own _ rfl (.tmp 29) (.tmp 31) 22 rfl w.heap.size 3 i0 (.int .i64 0) 1 8 Tryz.underlying22 (unhide HI).1 (unhide HI).2.1 (unhide HI).2.2.1 (unhide HI).2.2.2 rfl (by decide) _ m (l'.map (Value.int .i64)) rfl (unhide HRA) ⟨wr.heap.size, 0, none⟩ 1 1 [.int .i64 z] rfl rfl (fun q u hu => news_one wr 3 _ q u hu) (by simp [Value.oneCell']) (by unfold maxLen; omega) (by omega) (unhide HXS) ?_)
       intro v5 x5 ho5 hg5 _
       have hO5 : Only (fun q => (Value.slice pv m cv).ownBlock = some q) (wr.alloc (.cells #[.int .i64 z] 3)) x5 := (Only.refl _ _).grown hg5 (fun q _ e => e)
       have hnr : ∀ q, (Value.slice pv m cv).ownBlock = some q → w.heap.size ≤ q := fun q hq => ((unhide HRA).lt q hq).1
       have HRR := hide (show HoI w rb size r (m + 1) v5 x5 from by
        refine ⟨_, _, unhide HNB, ?_, unhide HN1, ?_, by simp [unhide HL], ?_, ?_⟩
        ·exact Rds.only (Rds.only (unhide HR1) ((Only.refl (fun _ => False) wr).alloc _) (fun q => q)) hO5 (fun q => by have := hnr rb q; omega)
        ·simpa [unhide HL] using ho5
        ·have hgv := ((unhide HG1).only ((Only.refl (fun _ => False) wr).alloc (.cells #[.int .i64 z] 3)) (fun q => q))
         exact hgv.only hO5 (fun q => by have := hnr _ q; have := unhide HGL; omega)
        ·exact ((unhide HO1).alloc _).trans hO5 (fun q hq e => by have := hnr q e; omega))
       clear ho5 hg5 hO5 hnr HRA
       go_wp2
       go_roundw
       case rel => exact ⟨m + 1, by omega, by go_num, unhide HRR⟩
       case measure => simp [intOf]; omega
    ·have hd : decide (19 ≤ z ∧ z < size) = false := by simpa using hfr
     have HPO := hide (show HoP w rb (homesF size 16 r []) (.slice pv k cv) x2 from by
      rw [unhide HH, unhide HST, if_pos ⟨h18, .inl hfr⟩]
      exact ⟨unhide HRW, unhide HR1, unhide HN1, unhide HO1⟩)
     rw [hd]
     clear HH HST hd hfr
     go_wp2
     try rw [Exit.noGoto_ret]
     go_ret
     exact ⟨_, rfl, unhide HPO⟩
  ·have hk' : k = 16 := by omega
   subst hk'
   have HPO := hide (show HoP w rb (homesF size 16 r []) (.slice pv 16 cv) wo from by
    rw [hH]
    refine ⟨?_, hR, hN, hW⟩
    show wo.ownsRow w.heap.size 3 1 (.slice pv 16 cv) l'.length _
    rw [hl] at hO ⊢
    exact hO)
   clear hH hR hN hO hl hg hW hk16
   go_wp2
   try rw [Exit.noGoto_ret]
   go_ret
   exact ⟨_, rfl, unhide HPO⟩
end Go.Proofs.YtiellebdliifdaaGreatDoor
namespace Go.Proofs.YtiellebdliifdaaGreatDoor
open Go.RowKit
theorem rnum (w : World) (b : Nat) (s : RSt) (h : Rds w b s) (hg : ETy w) (hN : s.ok 9223372036854775807) (bytes : Int) : Calls Tryz.prog 145 #[.pointer (some ⟨b, 0, none⟩), .int .i64 bytes] w fun ev w' => ev = .returned (.int .i64 (rdV s bytes)) ∧ Rds w' b (rdS s bytes) ∧ Only (fun k => k = b) w w' := numS w b s h hg hN bytes
def rs0 (t : ByteArray) : RSt := ⟨pbd t, 0, 0⟩
def RHP (t : ByteArray) (size : Int) (n : Int) (H : List Int) (ok : Bool) : Prop :=
  (¬ (prOk t ∧ pkd t = 2) ∧ n = 0 ∧ H = [] ∧ ok = false) ∨ ((prOk t ∧ pkd t = 2) ∧ n = pnm t ∧
    ((rdV (rs0 t) 1 = 1 ∧ H = (homesF size 16 (rdS (rs0 t) 1) []).2 ∧ ok = decide (doneE (homesF size 16 (rdS (rs0 t) 1) []).1.r (homesF size 16 (rdS (rs0 t) 1) []).1.e = 0 ∧ H.length = 16)) ∨
     (rdV (rs0 t) 1 ≠ 1 ∧ H = [] ∧ ok = decide (doneE (rdS (rs0 t) 1).r (rdS (rs0 t) 1).e = 0 ∧ rdV (rs0 t) 1 = 0))))
theorem prOk_fit (t : ByteArray) (h : prOk t) : 0 ≤ pnm t ∧ pnm t ≤ 4294967295 := by
 have := h.1
 unfold errM at this
 split at this
 ·cases this
 ·rename_i hq
  have hf : fitsP (pnm t) 4 := Classical.byContradiction (fun q => hq (.inr q))
  exact (fits4 _).1 hf
theorem rs0_ok (t : ByteArray) (h : prOk t) : (rs0 t).ok 9223372036854775807 := by
 have h1 := h.1
 unfold errM at h1
 split at h1
 ·cases h1
 ·split at h1
  ·cases h1
  ·exact ⟨Int.le_refl _, by show (0 : Int) + ((pbd t).size : Int) ≤ _; omega⟩
theorem nilRow (w : World) (base : Nat) : w.ownsRow base 3 1 (.slice none 0 0) ([] : List Int).length (([] : List Int).map (Value.int .i64)) := World.ownsRow_nil _ _ _ _
def RhPost (t : ByteArray) (size : Int) (w : World) (e : Ending) (w' : World) : Prop :=
 ∃ p c H n ok, e = .returned (.tuple #[.agg #[.int .u32 n, .slice p H.length c], .bool ok]) ∧ RHP t size n H ok ∧ w'.ownsRow w.heap.size 3 1 (.slice p H.length c) H.length (H.map (Value.int .i64)) ∧ Below w.heap.size w w'
set_option maxRecDepth 100000 in
set_option maxHeartbeats 2000000 in
theorem readHead_any (w : World) (hg : ETy w) (t : ByteArray) (ht : t.size ≤ 9223372036854775807) (size : Int) :
    Calls Tryz.prog 164 #[.string t, .int .i64 size] w (RhPost t size w) := by
  obtain ⟨x0, hx0⟩ : ∃ x, x = w.alloc (Obj.cells #[.int .u32 0, .slice none 0 0] 114) := ⟨_, rfl⟩
  have hs0 : x0.heap.size = w.heap.size + 1 := by rw [hx0]; simp
  have hb0 : Below w.heap.size w x0 := by rw [hx0]; exact (Below.refl _ w).alloc (Nat.le_refl _) _
  have B0 : Blk x0 w.heap.size #[.int .u32 0, .slice none 0 0] 114 := by rw [hx0]; exact Blk.new w _ _
  have hg0 : ETy x0 := hg.below hb0 hg.lt
  have HPP := hide (parse_any rep_ok t ht x0 hg0)
  have HX := hide (And.intro hs0 (And.intro hb0 (And.intro B0 hg0)))
  have HGL := hide hg.lt
  clear hs0 hb0 B0 hg0 hg
  go_enter Tryz.func164, Tryz.ntmps164
  go_wp2_with fail
  rw [← hx0]
  replace hx0 := hide hx0
  refine (unhide HPP).mono ?_
  rintro e x1 ⟨hcase, hb1⟩
  have hb01 : Below w.heap.size w x1 := (unhide HX).2.1.trans (hb1.mono (unhide HX).2.1.size)
  have hlw : w.heap.size < x0.heap.size := by have := (unhide HX).1; omega
  have B1 := (unhide HX).2.2.1.below hb1 hlw
  have HB1 := hide (And.intro hb01 (And.intro B1 ((unhide HX).2.2.2.below hb1 (unhide HX).2.2.2.lt)))
  clear hb1 hb01 B1 HPP
  rcases hcase with ⟨hok, rfl⟩ | ⟨hok, rfl⟩
  · have hfit := prOk_fit t hok
    have hrs := rs0_ok t hok
    by_cases hk2 : pkd t = 2
    · obtain ⟨n, hn⟩ : ∃ n, pnm t = n := ⟨_, rfl⟩
      rw [hk2, hn]
      rw [hn] at hfit
      have hcv : IntKind.u32.wrap n = n := by
        have : IntKind.u32.wrap n = n % 4294967296 := by simp [IntKind.wrap, IntKind.signed, IntKind.bits]
        rw [this]; omega
      obtain ⟨bd, hbd⟩ : ∃ bd, pbd t = bd := ⟨_, rfl⟩
      rw [hbd]
      have hrs' : rs0 t = ⟨bd, 0, 0⟩ := by rw [rs0, hbd]
      rw [hrs'] at hrs
      have HRHP := hide (show ∀ H ok, ((rdV ⟨bd, 0, 0⟩ 1 = 1 ∧ H = (homesF size 16 (rdS ⟨bd, 0, 0⟩ 1) []).2 ∧ ok = decide (doneE (homesF size 16 (rdS ⟨bd, 0, 0⟩ 1) []).1.r (homesF size 16 (rdS ⟨bd, 0, 0⟩ 1) []).1.e = 0 ∧ H.length = 16)) ∨
     (rdV ⟨bd, 0, 0⟩ 1 ≠ 1 ∧ H = [] ∧ ok = decide (doneE (rdS ⟨bd, 0, 0⟩ 1).r (rdS ⟨bd, 0, 0⟩ 1).e = 0 ∧ rdV ⟨bd, 0, 0⟩ 1 = 0))) → RHP t size n H ok from fun H ok h => by
        rw [← hrs'] at h
        exact .inr ⟨⟨hok, hk2⟩, hn.symm, h⟩)
      obtain ⟨x2, hx2⟩ : ∃ x, x = x1.alloc (Obj.cells #[.int .i64 2, .int .i64 n, .string bd] 95) := ⟨_, rfl⟩
      have hb2 : Below x1.heap.size x1 x2 := by rw [hx2]; exact (Below.refl _ x1).alloc (Nat.le_refl _) _
      have BP2 : Blk x2 x1.heap.size #[.int .i64 2, .int .i64 n, .string bd] 95 := by rw [hx2]; exact Blk.new x1 _ _
      have HB2 := hide (And.intro ((unhide HB1).1.trans (hb2.mono (unhide HB1).1.size)) (And.intro ((unhide HB1).2.1.below hb2 (unhide HB1).2.1.lt) (And.intro ((unhide HB1).2.2.below hb2 (unhide HB1).2.2.lt) BP2)))
      have HCH := hide (fun W => clearHead_any n W)
      have HNR := hide (fun W => newReader_any bd W)
      have HRS := hide hrs
      clear hk2 hn hbd hrs' hb2 BP2 hok hfit hrs
      go_wp2_with fail
      rw [← hx2]
      replace hx2 := hide hx2
      refine (unhide HCH _).mono ?_
      rintro e x3 ⟨rfl, hb3⟩
      obtain ⟨x4, hx4⟩ : ∃ x, x = x3.alloc (Obj.cells #[.int .u32 n, .slice none 0 0] 114) := ⟨_, rfl⟩
      have hb4 : Below x2.heap.size x2 x4 := by rw [hx4]; exact hb3.alloc hb3.size _
      have BH4 : Blk x4 x3.heap.size #[.int .u32 n, .slice none 0 0] 114 := by rw [hx4]; exact Blk.new x3 _ _
      have HB4 := hide (And.intro ((unhide HB2).1.trans (hb4.mono (unhide HB2).1.size)) (And.intro ((unhide HB2).2.1.below hb4 (unhide HB2).2.1.lt) (And.intro ((unhide HB2).2.2.1.below hb4 (unhide HB2).2.2.1.lt) (And.intro ((unhide HB2).2.2.2.below hb4 (unhide HB2).2.2.2.lt) BH4))))
      have hgh : w.heap.size < x3.heap.size := by have := (unhide HB2).2.1.lt; have := hb3.size; omega
      have cp2 : x4.cell? ⟨x1.heap.size, 2, none⟩ = some (.string bd) := (unhide HB4).2.2.2.1.cell 2
      have hlp : x1.heap.size < x3.heap.size := by have := (unhide HB2).2.2.2.lt; have := hb3.size; omega
      have hnp : x1.heap.size ≠ x3.heap.size := by omega
      have cp2' : x3.cell? ⟨x1.heap.size, 2, none⟩ = some (.string bd) := ((unhide HB2).2.2.2.below hb3 (unhide HB2).2.2.2.lt).cell 2
      clear hb3 hb4 BH4 HCH HB2
      go_wp2_with fail
      rw [← hx4]
      replace hx4 := hide hx4
      obtain ⟨gh, hgh2⟩ : ∃ g, x3.heap.size = g := ⟨_, rfl⟩
      rw [hgh2] at HB4 hgh ⊢
      clear hgh2 hlp cp2' hnp
      refine (unhide HNR _).mono ?_
      rintro e x5 ⟨rfl, hR5, hb5, hz5⟩
      have HR5 := hide (show Rds x5 x4.heap.size ⟨bd, 0, 0⟩ from hR5)
      have HB5 := hide (And.intro ((unhide HB4).1.trans (hb5.mono (unhide HB4).1.size)) (And.intro ((unhide HB4).2.1.below hb5 (unhide HB4).2.1.lt) (And.intro ((unhide HB4).2.2.1.below hb5 (unhide HB4).2.2.1.lt) ((unhide HB4).2.2.2.2.below hb5 (unhide HB4).2.2.2.2.lt))))
      have hrbl : gh < x4.heap.size := (unhide HB4).2.2.2.2.lt
      obtain ⟨rb, hrb⟩ : ∃ b, x4.heap.size = b := ⟨_, rfl⟩
      rw [hrb] at HR5 hrbl ⊢
      have HNC := hide (rnum x5 rb ⟨bd, 0, 0⟩ (unhide HR5) (unhide HB5).2.2.1 (unhide HRS) 1)
      have HRN := hide ((unhide HR5).ne (unhide HB5).2.2.1)
      clear hR5 hb5 hz5 hrb HNR HB4 HR5 cp2
      go_wp2_with fail
      refine (unhide HNC).mono ?_
      rintro e x6 ⟨rfl, hR6, hO6⟩
      have HR6 := hide (show Rds x6 rb (rdS ⟨bd, 0, 0⟩ 1) from hR6)
      have HO6 := hide hO6
      have hwrb : w.heap.size ≠ rb := by omega
      have hghrb : gh ≠ rb := by omega
      have hb6 : Below w.heap.size w x6 := (unhide HB5).1.trans (hO6.below (unhide HB5).1.size (fun k hk q => by have q : k = rb := q; omega))
      have B6 := (unhide HB5).2.1.only hO6 hwrb
      have BH6 := (unhide HB5).2.2.2.only hO6 hghrb
      have HB6 := hide (And.intro hb6 (And.intro B6 (And.intro ((unhide HB5).2.2.1.only hO6 (fun q => unhide HRN q.symm)) BH6)))
      have HK6 := hide (rdS_ok ⟨bd, 0, 0⟩ 1 _ (unhide HRS))
      obtain ⟨mk, hmk⟩ : ∃ m, rdV ⟨bd, 0, 0⟩ 1 = m := ⟨_, rfl⟩
      rw [hmk]
      rw [hmk] at HRHP
      clear hR6 hO6 hb6 B6 BH6 hmk HNC HB5 HO6
      obtain ⟨r6, hr6⟩ : ∃ r, rdS ⟨bd, 0, 0⟩ 1 = r := ⟨_, rfl⟩
      rw [hr6] at HR6 HRHP HK6
      clear hr6
      by_cases h1 : mk = 1
      · subst h1
        have HHO := hide (readHomes_any x6 rb r6 (unhide HR6) (unhide HB6).2.2.1 (unhide HK6) size)
        go_wp2_with fail
        refine (unhide HHO).mono ?_
        rintro e x7 ⟨v7, rfl, hrow7, hR7, hK7, hO7⟩
        have hb7 : Below w.heap.size w x7 := (unhide HB6).1.trans (hO7.below (unhide HB6).1.size (fun k hk q => by have q : k = rb := q; omega))
        have B7 := (unhide HB6).2.1.only hO7 hwrb
        have BH7 := (unhide HB6).2.2.2.only hO7 hghrb
        obtain ⟨R7, H7, hRH⟩ : ∃ R H, homesF size 16 r6 [] = (R, H) := ⟨_, _, rfl⟩
        rw [hRH] at hrow7 hR7 HRHP
        obtain ⟨p7, c7, rfl, _⟩ := row_form hrow7
        have hne7 : ∀ q, (Value.slice p7 H7.length c7).ownBlock = some q → x6.heap.size ≤ q := fun q hq => (hrow7.lt q hq).1
        have HROW := hide (owns_base hrow7 (unhide HB6).1.size)
        have HN7 := hide hne7
        have hl6 : w.heap.size < x6.heap.size ∧ gh < x6.heap.size := ⟨(unhide HB6).2.1.lt, (unhide HB6).2.2.2.lt⟩
        have HL6 := hide hl6
        have q1 : x7.cell? ⟨gh, 1, none⟩ = some (.slice none 0 0) := BH7.cell 1
        have f1 : x7.frozen? ⟨gh, 1, none⟩ = false := BH7.frozen 1
        have HB7 := hide (And.intro hb7 (And.intro B7 BH7))
        obtain ⟨x8, hx8⟩ : ∃ x, x = x7.setCell ⟨gh, 1, none⟩ (.slice p7 H7.length c7) := ⟨_, rfl⟩
        have HR8 := hide (show Rds x8 rb R7 from by rw [hx8]; exact Rds.only hR7 ((Only.refl (fun k => k = gh) x7).setCell _ _ (fun _ => rfl)) (fun q => hghrb q.symm))
        have HD8 := hide (rdone_any x8 rb R7.r R7.t R7.e (unhide HR8))
        clear hrow7 hR7 hK7 hO7 hb7 B7 BH7 hRH HHO hne7 hl6
        generalize hHl : H7.length = m7 at *
        have HHL := hide hHl
        clear hHl
        go_wp2_with fail
        rw [← hx8]
        refine (unhide HD8).mono ?_
        rintro e x9 ⟨rfl, hb9⟩
        have BH8 : Blk x8 gh #[.int .u32 n, .slice p7 m7 c7] 114 := by rw [hx8]; exact (unhide HB7).2.2.set 1 _
        have B8 : Blk x8 w.heap.size #[.int .u32 0, .slice none 0 0] 114 := by rw [hx8]; exact (unhide HB7).2.1.other _ _ (by show gh ≠ w.heap.size; omega)
        have BH9 := BH8.below hb9 BH8.lt
        have B9 := B8.below hb9 B8.lt
        have hb8 : Below w.heap.size w x8 := by rw [hx8]; exact (unhide HB7).1.setCell (by show w.heap.size ≤ gh; omega) _
        have hrow9 : x9.ownsRow w.heap.size 3 1 (.slice p7 m7 c7) m7 (H7.map (Value.int .i64)) := by
          have h8 : x8.ownsRow w.heap.size 3 1 (.slice p7 m7 c7) m7 (H7.map (Value.int .i64)) := by
            rw [hx8]
            exact owns_setO (unhide HROW) _ _ (fun q => by have h1 : x6.heap.size ≤ gh := unhide HN7 _ q; have := (unhide HL6).2; omega)
          exact owns_only h8 (Only.of_below (P := fun _ => False) hb9) (fun _ _ q => q)
        have c0 : x9.cell? ⟨gh, 0, none⟩ = some (.int .u32 n) := BH9.cell 0
        have c1 : x9.cell? ⟨gh, 1, none⟩ = some (.slice p7 m7 c7) := BH9.cell 1
        have d0 : x9.cell? ⟨w.heap.size, 0, none⟩ = some (.int .u32 0) := B9.cell 0
        have d1 : x9.cell? ⟨w.heap.size, 1, none⟩ = some (.slice none 0 0) := B9.cell 1
        have g0 := B9.frozen 0
        have g1 := B9.frozen 1
        have HF := hide (And.intro (hb8.trans (hb9.mono hb8.size)) (And.intro B9 hrow9))
        replace hx8 := hide hx8
        obtain ⟨D, hD⟩ : ∃ D, doneE R7.r R7.e = D := ⟨_, rfl⟩
        rw [hD] at HRHP ⊢
        clear hb9 BH8 B8 BH9 B9 hb8 hrow9 HD8 HR8 q1 f1 hD
        have hlast : ∀ ok, ok = decide (D = 0 ∧ m7 = 16) → RHP t size n H7 ok := fun ok hq => unhide HRHP H7 ok (.inl ⟨by first | rfl | trivial, rfl, by rw [unhide HHL]; exact hq⟩)
        have HLS := hide hlast
        have hne0 : gh ≠ w.heap.size := by omega
        clear hlast HRHP
        by_cases hD0 : D = 0
        · subst hD0
          by_cases hw : m7 = 16
          · subst hw
            go_wp2
            have B := ((unhide HF).2.1.set 0 (.int .u32 n)).set 1 (.slice p7 16 c7)
            have hld := load_blk 114 _ B Tryz.underlying114 rfl (by kernel_rfl)
            refine bodyPost_ret (v := .tuple #[.agg #[.int .u32 n, .slice p7 16 c7], .bool true]) (results_pair rfl _ _ _ ⟨w.heap.size, 0, none⟩ rfl _ hld _ rfl) rfl ?_
            have hPF : RhPost t size w (.returned (.tuple #[.agg #[.int .u32 n, .slice p7 16 c7], .bool true])) ((x9.setCell ⟨w.heap.size, 0, none⟩ (.int .u32 n)).setCell ⟨w.heap.size, 1, none⟩ (.slice p7 16 c7)) := by
              have hl := unhide HHL
              refine ⟨p7, c7, H7, n, true, by rw [hl], unhide HLS true (by simp), ?_, ((unhide HF).1.setCell (Nat.le_refl _) _).setCell (Nat.le_refl _) _⟩
              rw [hl]
              exact owns_setO (owns_setO (unhide HF).2.2 _ _ (fun q => by have h1 : x6.heap.size ≤ w.heap.size := unhide HN7 _ q; have := (unhide HL6).1; omega)) _ _ (fun q => by have h1 : x6.heap.size ≤ w.heap.size := unhide HN7 _ q; have := (unhide HL6).1; omega)
            exact hPF
          · have hwb : ((m7 : Int) == 16) = false := by simp; omega
            go_wp2
            have B := ((unhide HF).2.1.set 0 (.int .u32 n)).set 1 (.slice p7 m7 c7)
            have hld := load_blk 114 _ B Tryz.underlying114 rfl (by kernel_rfl)
            refine bodyPost_ret (v := .tuple #[.agg #[.int .u32 n, .slice p7 m7 c7], .bool false]) (results_pair rfl _ _ _ ⟨w.heap.size, 0, none⟩ rfl _ hld _ rfl) rfl ?_
            have hPF : RhPost t size w (.returned (.tuple #[.agg #[.int .u32 n, .slice p7 m7 c7], .bool false])) ((x9.setCell ⟨w.heap.size, 0, none⟩ (.int .u32 n)).setCell ⟨w.heap.size, 1, none⟩ (.slice p7 m7 c7)) := by
              have hl := unhide HHL
              refine ⟨p7, c7, H7, n, false, by rw [hl], unhide HLS false (by simp [hw]), ?_, ((unhide HF).1.setCell (Nat.le_refl _) _).setCell (Nat.le_refl _) _⟩
              rw [hl]
              exact owns_setO (owns_setO (unhide HF).2.2 _ _ (fun q => by have h1 : x6.heap.size ≤ w.heap.size := unhide HN7 _ q; have := (unhide HL6).1; omega)) _ _ (fun q => by have h1 : x6.heap.size ≤ w.heap.size := unhide HN7 _ q; have := (unhide HL6).1; omega)
            exact hPF
        · have hDb : (D == 0) = false := by simpa using hD0
          by_cases hw : m7 = 16
          · subst hw
            go_wp2
            have B := ((unhide HF).2.1.set 0 (.int .u32 n)).set 1 (.slice p7 16 c7)
            have hld := load_blk 114 _ B Tryz.underlying114 rfl (by kernel_rfl)
            refine bodyPost_ret (v := .tuple #[.agg #[.int .u32 n, .slice p7 16 c7], .bool false]) (results_pair rfl _ _ _ ⟨w.heap.size, 0, none⟩ rfl _ hld _ rfl) rfl ?_
            have hPF : RhPost t size w (.returned (.tuple #[.agg #[.int .u32 n, .slice p7 16 c7], .bool false])) ((x9.setCell ⟨w.heap.size, 0, none⟩ (.int .u32 n)).setCell ⟨w.heap.size, 1, none⟩ (.slice p7 16 c7)) := by
              have hl := unhide HHL
              refine ⟨p7, c7, H7, n, false, by rw [hl], unhide HLS false (by simp [hD0]), ?_, ((unhide HF).1.setCell (Nat.le_refl _) _).setCell (Nat.le_refl _) _⟩
              rw [hl]
              exact owns_setO (owns_setO (unhide HF).2.2 _ _ (fun q => by have h1 : x6.heap.size ≤ w.heap.size := unhide HN7 _ q; have := (unhide HL6).1; omega)) _ _ (fun q => by have h1 : x6.heap.size ≤ w.heap.size := unhide HN7 _ q; have := (unhide HL6).1; omega)
            exact hPF
          · have hwb : ((m7 : Int) == 16) = false := by simp; omega
            go_wp2
            have B := ((unhide HF).2.1.set 0 (.int .u32 n)).set 1 (.slice p7 m7 c7)
            have hld := load_blk 114 _ B Tryz.underlying114 rfl (by kernel_rfl)
            refine bodyPost_ret (v := .tuple #[.agg #[.int .u32 n, .slice p7 m7 c7], .bool false]) (results_pair rfl _ _ _ ⟨w.heap.size, 0, none⟩ rfl _ hld _ rfl) rfl ?_
            have hPF : RhPost t size w (.returned (.tuple #[.agg #[.int .u32 n, .slice p7 m7 c7], .bool false])) ((x9.setCell ⟨w.heap.size, 0, none⟩ (.int .u32 n)).setCell ⟨w.heap.size, 1, none⟩ (.slice p7 m7 c7)) := by
              have hl := unhide HHL
              refine ⟨p7, c7, H7, n, false, by rw [hl], unhide HLS false (by simp [hD0]), ?_, ((unhide HF).1.setCell (Nat.le_refl _) _).setCell (Nat.le_refl _) _⟩
              rw [hl]
              exact owns_setO (owns_setO (unhide HF).2.2 _ _ (fun q => by have h1 : x6.heap.size ≤ w.heap.size := unhide HN7 _ q; have := (unhide HL6).1; omega)) _ _ (fun q => by have h1 : x6.heap.size ≤ w.heap.size := unhide HN7 _ q; have := (unhide HL6).1; omega)
            exact hPF
      · have h1b : (mk == 1) = false := by simpa using h1
        have HD8 := hide (rdone_any x6 rb r6.r r6.t r6.e (unhide HR6))
        go_wp2_with fail
        refine (unhide HD8).mono ?_
        rintro e x9 ⟨rfl, hb9⟩
        have BH9 := (unhide HB6).2.2.2.below hb9 (unhide HB6).2.2.2.lt
        have B9 := (unhide HB6).2.1.below hb9 (unhide HB6).2.1.lt
        have c0 : x9.cell? ⟨gh, 0, none⟩ = some (.int .u32 n) := BH9.cell 0
        have c1 : x9.cell? ⟨gh, 1, none⟩ = some (.slice none 0 0) := BH9.cell 1
        have d0 : x9.cell? ⟨w.heap.size, 0, none⟩ = some (.int .u32 0) := B9.cell 0
        have d1 : x9.cell? ⟨w.heap.size, 1, none⟩ = some (.slice none 0 0) := B9.cell 1
        have g0 := B9.frozen 0
        have g1 := B9.frozen 1
        have HF := hide (And.intro ((unhide HB6).1.trans (hb9.mono (unhide HB6).1.size)) (And.intro B9 trivial))
        obtain ⟨D, hD⟩ : ∃ D, doneE r6.r r6.e = D := ⟨_, rfl⟩
        rw [hD] at HRHP ⊢
        clear hb9 BH9 B9 HD8 hD
        have hlast : ∀ ok, ok = decide (D = 0 ∧ mk = 0) → RHP t size n [] ok := fun ok hq => unhide HRHP [] ok (.inr ⟨h1, rfl, hq⟩)
        have HLS := hide hlast
        have hne0 : gh ≠ w.heap.size := by omega
        clear hlast HRHP
        by_cases hD0 : D = 0
        · subst hD0
          by_cases hw : mk = 0
          · subst hw
            go_wp2
            have B := ((unhide HF).2.1.set 0 (.int .u32 n)).set 1 (.slice none 0 0)
            have hld := load_blk 114 _ B Tryz.underlying114 rfl (by kernel_rfl)
            refine bodyPost_ret (v := .tuple #[.agg #[.int .u32 n, .slice none 0 0], .bool true]) (results_pair rfl _ _ _ ⟨w.heap.size, 0, none⟩ rfl _ hld _ rfl) rfl ?_
            have hPF : RhPost t size w (.returned (.tuple #[.agg #[.int .u32 n, .slice none 0 0], .bool true])) ((x9.setCell ⟨w.heap.size, 0, none⟩ (.int .u32 n)).setCell ⟨w.heap.size, 1, none⟩ (.slice none 0 0)) := ⟨none, 0, [], n, true, rfl, unhide HLS true (by simp), nilRow _ _, (by refine ((unhide HF).1.setCell ?_ _).setCell ?_ _ <;> exact Nat.le_refl _)⟩
            exact hPF
          · have hwb : (mk == 0) = false := by simpa using hw
            go_wp2
            have B := ((unhide HF).2.1.set 0 (.int .u32 n)).set 1 (.slice none 0 0)
            have hld := load_blk 114 _ B Tryz.underlying114 rfl (by kernel_rfl)
            refine bodyPost_ret (v := .tuple #[.agg #[.int .u32 n, .slice none 0 0], .bool false]) (results_pair rfl _ _ _ ⟨w.heap.size, 0, none⟩ rfl _ hld _ rfl) rfl ?_
            have hPF : RhPost t size w (.returned (.tuple #[.agg #[.int .u32 n, .slice none 0 0], .bool false])) ((x9.setCell ⟨w.heap.size, 0, none⟩ (.int .u32 n)).setCell ⟨w.heap.size, 1, none⟩ (.slice none 0 0)) := ⟨none, 0, [], n, false, rfl, unhide HLS false (by simp [hw]), nilRow _ _, (by refine ((unhide HF).1.setCell ?_ _).setCell ?_ _ <;> exact Nat.le_refl _)⟩
            exact hPF
        · have hDb : (D == 0) = false := by simpa using hD0
          by_cases hw : mk = 0
          · subst hw
            go_wp2
            have B := ((unhide HF).2.1.set 0 (.int .u32 n)).set 1 (.slice none 0 0)
            have hld := load_blk 114 _ B Tryz.underlying114 rfl (by kernel_rfl)
            refine bodyPost_ret (v := .tuple #[.agg #[.int .u32 n, .slice none 0 0], .bool false]) (results_pair rfl _ _ _ ⟨w.heap.size, 0, none⟩ rfl _ hld _ rfl) rfl ?_
            have hPF : RhPost t size w (.returned (.tuple #[.agg #[.int .u32 n, .slice none 0 0], .bool false])) ((x9.setCell ⟨w.heap.size, 0, none⟩ (.int .u32 n)).setCell ⟨w.heap.size, 1, none⟩ (.slice none 0 0)) := ⟨none, 0, [], n, false, rfl, unhide HLS false (by simp [hD0]), nilRow _ _, (by refine ((unhide HF).1.setCell ?_ _).setCell ?_ _ <;> exact Nat.le_refl _)⟩
            exact hPF
          · have hwb : (mk == 0) = false := by simpa using hw
            go_wp2
            have B := ((unhide HF).2.1.set 0 (.int .u32 n)).set 1 (.slice none 0 0)
            have hld := load_blk 114 _ B Tryz.underlying114 rfl (by kernel_rfl)
            refine bodyPost_ret (v := .tuple #[.agg #[.int .u32 n, .slice none 0 0], .bool false]) (results_pair rfl _ _ _ ⟨w.heap.size, 0, none⟩ rfl _ hld _ rfl) rfl ?_
            have hPF : RhPost t size w (.returned (.tuple #[.agg #[.int .u32 n, .slice none 0 0], .bool false])) ((x9.setCell ⟨w.heap.size, 0, none⟩ (.int .u32 n)).setCell ⟨w.heap.size, 1, none⟩ (.slice none 0 0)) := ⟨none, 0, [], n, false, rfl, unhide HLS false (by simp [hD0]), nilRow _ _, (by refine ((unhide HF).1.setCell ?_ _).setCell ?_ _ <;> exact Nat.le_refl _)⟩
            exact hPF
    · have hk2b : (pkd t != 2) = true := by simp [hk2]
      have HRH := hide (show RHP t size 0 [] false from .inl ⟨fun q => hk2 q.2, rfl, rfl, rfl⟩)
      obtain ⟨kd, hkd⟩ : ∃ k, pkd t = k := ⟨_, rfl⟩
      rw [hkd] at hk2b ⊢
      clear hkd hk2 hok hfit hrs
      have B1 := (unhide HB1).2.1
      have d0 : x1.cell? ⟨w.heap.size, 0, none⟩ = some (.int .u32 0) := B1.cell 0
      have d1 : x1.cell? ⟨w.heap.size, 1, none⟩ = some (.slice none 0 0) := B1.cell 1
      have g0 := B1.frozen 0
      have g1 := B1.frozen 1
      have hlt1 : w.heap.size < x1.heap.size := B1.lt
      have hne1 : w.heap.size ≠ x1.heap.size := by omega
      clear B1
      go_wp2
      have B := (((unhide HB1).2.1.set 0 (.int .u32 0)).set 1 (.slice none 0 0)).alloc (Obj.cells #[.int .i64 kd, .int .i64 (pnm t), .string (pbd t)] 95)
      have hld := load_blk 114 _ B Tryz.underlying114 rfl (by kernel_rfl)
      refine bodyPost_ret (v := .tuple #[.agg #[.int .u32 0, .slice none 0 0], .bool false]) (results_pair rfl _ _ _ ⟨w.heap.size, 0, none⟩ rfl _ hld _ rfl) rfl ⟨none, 0, [], 0, false, rfl, unhide HRH, nilRow _ _, ?_⟩
      exact (((unhide HB1).1.setCell (Nat.le_refl _) _).setCell (Nat.le_refl _) _).alloc (by have := (unhide HB1).1.size; simpa using this) _
  · have HRH := hide (show RHP t size 0 [] false from .inl ⟨fun q => hok q.1, rfl, rfl, rfl⟩)
    clear hok
    have B1 := (unhide HB1).2.1
    have d0 : x1.cell? ⟨w.heap.size, 0, none⟩ = some (.int .u32 0) := B1.cell 0
    have d1 : x1.cell? ⟨w.heap.size, 1, none⟩ = some (.slice none 0 0) := B1.cell 1
    have g0 := B1.frozen 0
    have g1 := B1.frozen 1
    have hlt1 : w.heap.size < x1.heap.size := B1.lt
    have hne1 : w.heap.size ≠ x1.heap.size := by omega
    clear B1
    go_wp2
    have B := (((unhide HB1).2.1.set 0 (.int .u32 0)).set 1 (.slice none 0 0)).alloc (Obj.cells #[.int .i64 0, .int .i64 0, .string ⟨#[]⟩] 95)
    have hld := load_blk 114 _ B Tryz.underlying114 rfl (by kernel_rfl)
    refine bodyPost_ret (v := .tuple #[.agg #[.int .u32 0, .slice none 0 0], .bool false]) (results_pair rfl _ _ _ ⟨w.heap.size, 0, none⟩ rfl _ hld _ rfl) rfl ⟨none, 0, [], 0, false, rfl, unhide HRH, nilRow _ _, ?_⟩
    exact (((unhide HB1).1.setCell (Nat.le_refl _) _).setCell (Nat.le_refl _) _).alloc (by have := (unhide HB1).1.size; simpa using this) _
end Go.Proofs.YtiellebdliifdaaGreatDoor
