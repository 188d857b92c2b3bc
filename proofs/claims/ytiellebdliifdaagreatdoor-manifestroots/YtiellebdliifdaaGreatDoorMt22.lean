import Derived.Test.YtiellebdliifdaaGreatDoorMt21
import Derived.Test.YtiellebdliifdaaGreatDoorMt11
import Derived.Test.YtiellebdliifdaaGreatDoorMt15
import Derived.WalkMore
import Derived.Test.YtiellebdliifdaaGreatDoorMt18
namespace Go.Proofs.YtiellebdliifdaaGreatDoor
open Go.RowKit Go.Maps Go.Sort Go.Shelf
def WrI (w : World) (bm : Nat) (l : Tx) (dv : Value) (k : Nat) (u : Value) (wr : World) : Prop :=
 wr.ownsRow w.heap.size 76 2 u k (wrv (l.take k)) ∧ wr.ownsRow w.heap.size 3 1 dv l.length ((l.map (·.1)).map encZ) ∧ Below w.heap.size w wr ∧ Mp wr bm l
theorem at_nth {l : Tx} (h : Srt l) (k : Nat) (hk : k < l.length) : txAt l l[k].1 = some l[k].2 := (at_some h).2 (List.getElem_mem hk)
set_option maxRecDepth 100000 in
set_option maxHeartbeats 2000000 in
theorem writes_any (w : World) (bm pb : Nat) (l : Tx) (hm : Mp w bm l) (hl : l.length ≤ 1000) (hw : ∀ p ∈ l, I64k p.1) (cur : Array Value) (hB : Blk w pb cur 66) (c3 : cur[3]? = some (.map (some bm))) :
  Calls Tryz.prog 29 #[.pointer (some ⟨pb, 0, none⟩)] w fun e w' => ∃ v, e = .returned v ∧ w'.ownsRow w.heap.size 76 2 v l.length (wrv l) ∧ Below w.heap.size w w' := by
 have HD := hide (dirty_any w bm pb l hm (by omega) (by rw [hB.cell]; exact c3))
 have hpl := hB.lt
 have hml := hm.lt
 obtain ⟨i0, hi0, hz0, hz1, hz2⟩ := info_parts infoWj
 have HI := hide (And.intro hi0 (And.intro hz0 (And.intro hz1 hz2)))
 have HK := hide (And.intro hm (And.intro hB (And.intro c3 hw)))
 clear hi0 hz0 hz1 hz2 hm hB c3 hw
 go_enter Tryz.func29, Tryz.ntmps29
 go_wp2_with fail
 refine (unhide HD).mono ?_
 rintro e w1 ⟨dv, rfl, hr, hb⟩
 rw [List.length_map] at hr
 have X0 := hide (show WrI w bm l dv 0 (.slice none 0 0) w1 from ⟨World.ownsRow_nil _ _ _ _, hr, hb, (unhide HK).1.below hb hml⟩)
 obtain ⟨dp, dc, hdv, _⟩ := row_form hr
 subst hdv
 clear HD hr hb
 go_wp2
 go_loopw [3, 9] (fun u i wr => ∃ k : Nat, k ≤ l.length ∧ i = .int .i64 (k : Int) ∧ WrI w bm l (.slice dp l.length dc) k u wr) (fun _ i _ => l.length - (intOf i).toNat)
 case atStart => exact ⟨0, by omega, rfl, unhide X0⟩
 case round =>
  obtain ⟨k, hk, rfl, h1, h2, h3, h4⟩ := hrel
  obtain ⟨wo, rfl⟩ : ∃ wo, wo = wr := ⟨_, rfl⟩
  clear X0
  obtain ⟨pv, cv, rfl, hcv⟩ := row_form h1
  by_cases hkl : k < l.length
  ·have hkl' : (k : Int) < (l.length : Int) := by omega
   obtain ⟨z, hz⟩ : ∃ z, l[k].1 = z := ⟨_, rfl⟩
   obtain ⟨t, ht⟩ : ∃ t, l[k].2 = t := ⟨_, rfl⟩
   have hzk : I64k z := by rw [← hz]; exact (unhide HK).2.2.2 _ (List.getElem_mem hkl)
   have hat : txAt l z = some t := by rw [← hz, ← ht]; exact at_nth h4.2 k hkl
   have hlk := (h4.look hzk).2
   rw [hat] at hlk
   simp only [Option.getD_some] at hlk
   rcases h2.2 with ⟨q, q0⟩ | ⟨g, cap, cu, q, hgb0, hgb, q1, q2, q3, q4⟩
   ·omega
   injection q with q5 q6 q7
   subst q5 q7
   have cz : wo.cell? ⟨g, k, none⟩ = some (.int .i64 z) := by
    rw [(show Blk wo g cu 3 from hgb).cell, ← Array.getElem?_toList]
    have e1 : (cu.toList.take (l.length * 1))[k]? = ((l.map (·.1)).map encZ)[k]? := by rw [q4]
    rw [List.getElem?_take_of_lt (by omega)] at e1
    rw [e1, ← hz]
    simp [hkl]
   have cp : wo.cell? ⟨pb, 3, none⟩ = some (.map (some bm)) := by
    have := (unhide HK).2.1.below h3 hpl
    rw [this.cell]; exact (unhide HK).2.2.1
   have hone : wrv (l.take (k + 1)) = wrv (l.take k) ++ wrv [(z, t)] := by
    rw [← wrv_app, List.take_succ_eq_append_getElem hkl, ← hz, ← ht]
   have HRA := hide (show (wo.alloc (.cells #[.int .i64 z, .string t] 76)).ownsRow w.heap.size 76 2 (.slice pv k cv) k (wrv (l.take k)) from h1.alloc _)
   have HXS := hide (show w.heap.size ≤ (wo.alloc (.cells #[.int .i64 z, .string t] 76)).heap.size from by have := h3.size; simp; omega)
   have hgn : (Value.slice pv k cv).ownBlock ≠ some g := (show Blk wo g cu 3 from hgb).not_row (by decide) h1
   have HX := hide (And.intro h2 (And.intro h3 (And.intro h4 (And.intro hone hgn))))
   clear h1 h2 h3 h4 hone hgn hgb q1 q2 q3 q4 q6 hat hz ht hzk hgb0
   generalize hln : l.length = n at *
   have i0' : (0 : Int) ≤ (k : Int) := by omega
   go_wp2_with (refine wpList_append_own _ rfl (.tmp 13) (.tmp 22) 72 rfl w.heap.size 76 i0 (.agg #[.int .i64 0, .string ⟨#[]⟩]) 2 24 Tryz.underlying72 (unhide HI).1 (unhide HI).2.1 (unhide HI).2.2.1 (unhide HI).2.2.2 rfl (by decide) _ k (wrv (l.take k)) rfl (unhide HRA) ⟨wo.heap.size, 0, none⟩ 1 1 (wrv [(z, t)]) rfl rfl (fun q u hu => news_two wo 76 _ _ q u hu) (by simp [wrv, Value.oneCell']) (by unfold maxLen; omega) (by omega) (unhide HXS) ?_)
   intro v5 x5 ho5 hg5 _
   obtain ⟨h2, h3, h4, hone, hgn⟩ := unhide HX
   have hOa : Only (fun _ => False) wo (wo.alloc (.cells #[.int .i64 z, .string t] 76)) := (Only.refl _ _).alloc _
   have hO5 : Only (fun q => (Value.slice pv k cv).ownBlock = some q) (wo.alloc (.cells #[.int .i64 z, .string t] 76)) x5 := (Only.refl _ _).grown hg5 (fun q _ e => e)
   have hnr : ∀ q, (Value.slice pv k cv).ownBlock = some q → w.heap.size ≤ q := fun q hq => ((unhide HRA).lt q hq).1
   have HRR := hide (show WrI w bm l (.slice (some ⟨g, 0, none⟩) n dc) (k + 1) v5 x5 from by
    refine ⟨by rw [hone]; simpa using ho5, ?_, (h3.alloc h3.size _).grown hg5 (unhide HXS) (fun q hq => hnr q hq), (h4.only hOa (fun q => q)).only hO5 (fun q => by have := hnr bm q; omega)⟩
    rw [hln]
    exact owns_only (owns_only h2 hOa (fun _ _ q => q)) hO5 (fun x hx q => hgn (by rw [q]; simpa [Value.ownBlock] using hx.symm)))
   clear ho5 hg5 hO5 hOa hnr HRA h2 h3 h4 hone hgn HX
   go_wp2
   go_roundw
   case rel => exact ⟨k + 1, by omega, by go_num, unhide HRR⟩
   case measure => simp [intOf]; omega
  ·have hke : l.length = k := by omega
   have hkl' : ¬ ((k : Int) < (l.length : Int)) := by omega
   rw [List.take_of_length_le (by omega)] at h1
   have HR := hide (And.intro h1 h3)
   have HE := hide hke
   clear h1 h2 h3 h4 hke
   go_wp2
   go_ret
   rw [unhide HE]
   exact ⟨_, rfl, unhide HR⟩
end Go.Proofs.YtiellebdliifdaaGreatDoor
namespace Go.Proofs.YtiellebdliifdaaGreatDoor
open Go.RowKit Go.Maps Go.Sort Go.Shelf
theorem PKi.upd0 {w0 w w' : World} {b jb pb : Nat} {S : PS} {X : Nat → Prop} {bw bv : Nat} {ov : Value} (K : PKi w0 w b jb pb S X bw bv ov) (ho : Only (Pf pb bw bv ov) w w') (S' : PS) (e1 : S'.s = S.s) (e2 : S'.nx = S.nx) (e3 : S'.jl = S.jl) (e4 : S'.keep = S.keep) (hB : Blk w' pb (Pcs b jb S'.op bw S.keep bv (.slice none 0 0) S'.hits S'.mis S'.lost) 66) (hm : Mp w' bw S'.tx) (hn : Hn w' w0.heap.size S'.h bv (.slice none 0 0)) (hk : S'.h.length ≤ S.keep) (ht : S'.tx.length ≤ 16) (htk : ∀ p ∈ S'.tx, 19 ≤ p.1 ∧ p.1 < (S.s.last.length : Int) ∧ p.2.size = 256) :
  PK w0 w' b jb pb S' X ∧ Only (fun x => ¬ X x) w w' := by
 have hlo : ∀ x, Pf pb bw bv ov x → w0.heap.size ≤ x := fun x hx => by
  rcases hx with rfl | rfl | rfl | q
  ·exact K.lo1
  ·exact K.lo2
  ·exact K.lo3
  ·exact (row_lt K.hn.ord q).2
 have hnew : ∀ x, Pf pb bw bv (.slice none 0 0) x → Pf pb bw bv ov x := fun x hx => by
  rcases hx with q | q | q | q
  ·exact .inl q
  ·exact .inr (.inl q)
  ·exact .inr (.inr (.inl q))
  ·simp [Value.ownBlock] at q
 refine ⟨⟨bw, bv, _, ?_, ?_, hm, hn, K.ne, K.lo1, K.lo2, K.lo3, fun x hx q => K.xn x hx (hnew x q), by rw [e4]; exact hk, by rw [e4]; exact K.kp, ht, by rw [e1]; exact htk⟩, ho.mono (fun x _ q r => K.xn x r q)⟩
 ·rw [e1, e2, e3]
  refine K.jk.poke ho (fun x q _ => .inr q) hlo (fun x hx => ?_)
  rcases hx with q | q
  ·exact .inl (.inl q)
  ·exact .inl (.inr (hnew x q))
 ·rw [e4]; exact hB
def layAll (keep : Nat) (l : Tx) (h : Tx) : Tx := l.foldl (fun h p => hLay keep p.1 p.2 h) h
theorem layAll_step (keep : Nat) (l : Tx) (h : Tx) (k : Nat) (hk : k < l.length) : layAll keep (l.take (k + 1)) h = hLay keep l[k].1 l[k].2 (layAll keep (l.take k) h) := by
 unfold layAll
 rw [List.take_succ_eq_append_getElem hk, List.foldl_append]
 rfl
def doneS (S : PS) : PS := { S with op := false, tx := [], s := (commitR S.s S.nx S.jl S.tx).s, nx := (commitR S.s S.nx S.jl S.tx).nx, jl := (commitR S.s S.nx S.jl S.tx).lost }
def commitPE (S : PS) : Int := if S.op = false then 61 else if S.lost then 2 else (commitR S.s S.nx S.jl S.tx).e
def commitPS (S : PS) : PS := if S.op = false then S else if S.lost then endS S else if (commitR S.s S.nx S.jl S.tx).e = 0 then { doneS S with h := layAll S.keep S.tx S.h } else { doneS S with lost := true, h := [] }
theorem wls_row {w : World} {base : Nat} {v : Value} {l : List Wr1} (h : w.ownsRow base 76 2 v l.length (wrv l)) : ∃ p c, v = .slice p l.length c ∧ Wls w p l ∧ ∀ g o, p = some ⟨g, o, none⟩ → v.ownBlock = some g := by
 rcases h.2 with ⟨e, h0⟩ | ⟨g, cap, cur, e, hb, hg, h1, h2, h3, h4⟩
 ·exact ⟨none, 0, by rw [e, h0], fun j hj => by omega, fun g o q => by cases q⟩
 ·refine ⟨some ⟨g, 0, none⟩, cap, e, fun j hj => ?_, fun g' o q => by cases q; rw [e]; rfl⟩
  have hB : Blk w g cur 76 := hg
  obtain ⟨a1, a2⟩ := wrv_at l j hj
  have key : ∀ i, i < l.length * 2 → cur[i]? = (wrv l)[i]? := fun i hi => by
   rw [← h4, List.getElem?_take_of_lt hi, Array.getElem?_toList]
  exact ⟨g, 0, rfl, hB.lt, by rw [Nat.zero_add, hB.cell, key _ (by omega)]; exact a1, by rw [Nat.zero_add, hB.cell, key _ (by omega)]; exact a2⟩
def CoI (w0 w : World) (b jb pb : Nat) (S : PS) (X Y : Nat → Prop) (p : Option Addr) (l : Tx) (k : Nat) (wr : World) : Prop :=
 PK w0 wr b jb pb { S with h := layAll S.keep (l.take k) S.h } Y ∧ Wls wr p l ∧ Only (fun x => ¬ X x) w wr
set_option maxRecDepth 100000 in
set_option maxHeartbeats 2000000 in
theorem pcommit_any {w0 w : World} {b jb pb : Nat} {S : PS} {X : Nat → Prop} (K : PK w0 w b jb pb S X) (hnx : S.nx < 4294967296) (hp : S.s.pend.length ≤ 1000000) (ha : S.s.acts.length ≤ 100000000) :
  Calls Tryz.prog 10 #[.pointer (some ⟨pb, 0, none⟩)] w fun e w' => e = .returned (.int .i64 (commitPE S)) ∧ PK w0 w' b jb pb (commitPS S) X ∧ Only (fun x => ¬ X x) w w' := by
 obtain ⟨bw, bv, ov, K⟩ := K
 have c2 : w.cell? ⟨pb, 2, none⟩ = some (.bool S.op) := by rw [K.blk.cell]; rfl
 cases ho : S.op with
 | false =>
  rw [ho] at c2
  have HR := hide (show commitPE S = 61 ∧ commitPS S = S from by simp [commitPE, commitPS, ho])
  have HK := hide K
  clear K ho hnx hp ha
  go_enter Tryz.func10, Tryz.ntmps10
  go_wp2
  go_ret
  rw [(unhide HR).1, (unhide HR).2]
  exact ⟨rfl, (unhide HK).same⟩
 | true =>
  rw [ho] at c2
  have hwf : ∀ p ∈ S.tx, I64k p.1 := fun p hp => by
   have := K.tok p hp
   have := K.jk.sane.cap
   exact ⟨by omega, by omega⟩
  have ht16 := K.t16
  have htok : ∀ (k : Nat) (hk : k < S.tx.length) (z : Int) (t : ByteArray), S.tx[k] = (z, t) → t.size ≤ maxLen := fun k hk z t e => by
   have := (K.tok _ (List.getElem_mem hk)).2.2
   rw [e] at this
   unfold maxLen
   simp only at this
   omega
  have HW := hide (writes_any w bw pb S.tx K.tx (by have := K.t16; omega) hwf _ K.blk rfl)
  have HK := hide K
  have HP := hide (And.intro ho (And.intro hnx (And.intro hp (And.intro ha (And.intro hwf htok)))))
  clear K hnx hp ha ho hwf htok
  go_enter Tryz.func10, Tryz.ntmps10
  go_wp2_with fail
  refine (unhide HW).mono ?_
  rintro e w1 ⟨v, rfl, hr, hb⟩
  have hrl : ∀ x, v.ownBlock = some x → w.heap.size ≤ x ∧ x < w1.heap.size := fun x hx => by have := row_lt hr hx; omega
  obtain ⟨p, c, rfl, hWl, hpo⟩ := wls_row hr
  have hPK1 : PK w0 w1 b jb pb S (fun x => X x ∨ (Value.slice p S.tx.length c).ownBlock = some x) := PK.more ⟨bw, bv, ov, unhide HK⟩ hb (fun x hx => by
   rcases hx with q | q
   ·exact .inl q
   ·exact .inr (hrl x q))
  have hO1 : Only (fun x => ¬ X x) w w1 := Only.of_below hb
  have hXl : ∀ x, X x → x < w.heap.size := (PK.lt (⟨bw, bv, ov, unhide HK⟩ : PK w0 w b jb pb S X))
  clear HK HW hr hb
  obtain ⟨bw, bv, ov, K1⟩ := hPK1
  have HE := hide (pend_any K1)
  have HX := hide (And.intro hWl (And.intro hpo (And.intro hO1 (And.intro hXl (And.intro hrl K1.xn)))))
  clear hWl hpo hO1 hXl hrl K1
  go_wp2_with fail
  refine (unhide HE).mono ?_
  rintro e w2 ⟨rfl, K2, hO2⟩
  obtain ⟨hWl, hpo, hO1, hXl, hrl, hxn⟩ := unhide HX
  have hO2' : Only (fun x => ¬ (X x ∨ (Value.slice p S.tx.length c).ownBlock = some x)) w1 w2 := hO2.mono (fun x _ q r => hxn x r (by
   rcases q with q | q
   ·exact .inl q
   ·exact .inr (.inl q)))
  have hW2 : Wls w2 p S.tx := hWl.fence hO2' (fun g o e => .inr (hpo g o e))
  have step : ∀ {u u' : World}, Only (fun x => ¬ X x) w u → Only (fun x => ¬ (X x ∨ (Value.slice p S.tx.length c).ownBlock = some x)) u u' → Only (fun x => ¬ X x) w u' := fun h1 h2 => h1.trans h2 (fun x hx q r => q (.inl r))
  have hO02 := step hO1 hO2'
  have c9 : w2.cell? ⟨pb, 9, none⟩ = some (.bool S.lost) := by rw [K2.blk.cell]; rfl
  cases hl : S.lost with
  | true =>
   rw [hl] at c9
   have HR := hide (show commitPE S = 2 ∧ commitPS S = endS S from by simp [commitPE, commitPS, (unhide HP).1, hl])
   have HF := hide (And.intro (show PK w0 w2 b jb pb (endS S) X from PK.more ⟨bw, bv, ov, K2⟩ (Below.refl _ _) (fun x hx => .inl (.inl hx))) hO02)
   clear hWl hpo hO1 hXl hrl hxn hO2' hW2 step hO02 K2 hO2 hl HE HX HP
   go_wp2
   go_ret
   rw [(unhide HR).1, (unhide HR).2]
   exact ⟨rfl, unhide HF⟩
  | false =>
   rw [hl] at c9
   obtain ⟨ho, hnx, hp, ha, hwf, htok⟩ := unhide HP
   have c1 : w2.cell? ⟨pb, 1, none⟩ = some (.pointer (some ⟨jb, 0, none⟩)) := by rw [K2.blk.cell]; rfl
   have jk2 : JK w0 w2 b jb S.s S.nx S.jl _ := K2.jk
   have HC := hide (commitK jk2 hnx p c S.tx _ rfl hW2 hp ha)
   clear jk2
   have HY := hide (And.intro hW2 (And.intro hpo (And.intro hO02 (And.intro hXl (And.intro hrl (And.intro hxn (And.intro K2 (And.intro hwf htok))))))))
   have HRE := hide (show commitPE S = (commitR S.s S.nx S.jl S.tx).e ∧ (commitPS S = if (commitR S.s S.nx S.jl S.tx).e = 0 then { doneS S with h := layAll S.keep S.tx S.h } else { doneS S with lost := true, h := [] }) from by simp [commitPE, commitPS, ho, hl])
   clear hWl hpo hO1 hXl hrl hxn hO2' hW2 step hO02 K2 hO2 HE HX HP ho hnx hp ha hwf htok
   have HLS := hide hl
   clear hl
   go_wp2_with fail
   refine (unhide HC).mono ?_
   rintro e w3 ⟨rfl, hj3, hO3⟩
   obtain ⟨hW2, hpo, hO02, hXl, hrl, hxn, K2, hwf, htok⟩ := unhide HY
   have hO3' : Only (fun x => ¬ (X x ∨ (Value.slice p S.tx.length c).ownBlock = some x)) w2 w3 := hO3.mono (fun x _ q r => q (.inl r))
   have hW3 : Wls w3 p S.tx := hW2.fence hO3' (fun g o e => .inr (hpo g o e))
   have step : ∀ {u u' : World}, Only (fun x => ¬ X x) w u → Only (fun x => ¬ (X x ∨ (Value.slice p S.tx.length c).ownBlock = some x)) u u' → Only (fun x => ¬ X x) w u' := fun h1 h2 => h1.trans h2 (fun x hx q r => q (.inl r))
   have hO03 := step hO02 hO3'
   have nP : ∀ x, Pf pb bw bv ov x → ¬ ¬ ((X x ∨ (Value.slice p S.tx.length c).ownBlock = some x) ∨ Pf pb bw bv ov x) := fun x hx q => q (.inr hx)
   have K3 : PKi w0 w3 b jb pb (doneS S) (fun x => X x ∨ (Value.slice p S.tx.length c).ownBlock = some x) bw bv ov :=
    ⟨hj3, K2.blk.only hO3 (nP _ (.inl rfl)), K2.tx.only hO3 (nP _ (.inr (.inl rfl))), K2.hn.only hO3 (nP _ (.inr (.inr (.inl rfl)))) (fun x hx => nP x (.inr (.inr (.inr hx)))), K2.ne, K2.lo1, K2.lo2, K2.lo3, K2.xn, K2.hk, K2.kp, Nat.zero_le _, fun p hp => by cases hp⟩
   by_cases he : (commitR S.s S.nx S.jl S.tx).e = 0
   ·have hRS := unhide HRE
    rw [if_pos he, he] at hRS
    have HR := hide hRS
    rw [he]
    have X0 := hide (show CoI w0 w b jb pb (doneS S) X (fun x => X x ∨ (Value.slice p S.tx.length c).ownBlock = some x) p S.tx 0 w3 from ⟨⟨bw, bv, ov, K3⟩, hW3, hO03⟩)
    have HQ := hide (And.intro hpo hwf)
    have HTS := hide htok
    clear hW2 hpo hO02 hXl hrl hxn K2 hwf htok hO3' hW3 hO03 nP K3 hj3 hO3 HC HY HRE he hRS step
    have HDK := hide (show (doneS S).keep = S.keep ∧ (doneS S).h = S.h from ⟨rfl, rfl⟩)
    generalize doneS S = D at *
    generalize hll : S.tx = l at *
    obtain ⟨n, hn⟩ : ∃ n, l.length = n := ⟨_, rfl⟩
    rw [hn] at X0 HQ ht16 ⊢
    go_wp2
    go_loopw [38] (fun i wr => ∃ k : Nat, k ≤ n ∧ i = .int .i64 (k : Int) ∧ CoI w0 w b jb pb D X (fun x => X x ∨ (Value.slice p n c).ownBlock = some x) p l k wr) (fun i _ => n - (intOf i).toNat)
    case atStart => exact ⟨0, by omega, rfl, unhide X0⟩
    case round =>
     obtain ⟨k, hk, rfl, h1, h2, h3⟩ := hrel
     obtain ⟨wo, rfl⟩ : ∃ wo, wo = wr := ⟨_, rfl⟩
     clear X0
     by_cases hkl : k < n
     ·have hkl2 : k < l.length := by omega
      obtain ⟨g, o, rfl, hg, c0, c1⟩ := h2 k hkl2
      have e1 : l.getD k wr0 = l[k] := by rw [List.getD_eq_getElem?_getD, List.getElem?_eq_getElem hkl2]; rfl
      rw [e1] at c0 c1
      have hst := layAll_step D.keep l D.h k hkl2
      have hzk : I64k l[k].1 := (unhide HQ).2 _ (List.getElem_mem hkl2)
      obtain ⟨z, hz⟩ : ∃ z, l[k].1 = z := ⟨_, rfl⟩
      obtain ⟨t, ht⟩ : ∃ t, l[k].2 = t := ⟨_, rfl⟩
      have HTZ := hide (show t.size ≤ maxLen from unhide HTS k hkl2 z t (by rw [← hz, ← ht]))
      rw [hz] at c0 hst hzk
      rw [ht] at c1 hst
      have hld := load_wr wo g (o + k * 2) z t c0 c1
      have HH := hide (And.intro h1 (And.intro h2 (And.intro h3 (And.intro hst hzk))))
      clear h1 h2 h3 hst hzk hkl2 hz ht e1
      go_wp2_with fail
      generalize hx1 : wo.alloc (Obj.cells #[.int .i64 z, .string t] 76) = x1 at *
      have n0 : x1.cell? ⟨wo.heap.size, 0, none⟩ = some (.int .i64 z) := by rw [← hx1]; exact (Blk.new wo _ _).cell 0
      have n1 : x1.cell? ⟨wo.heap.size, 1, none⟩ = some (.string t) := by rw [← hx1]; exact (Blk.new wo _ _).cell 1
      have HB1 := hide (show Below wo.heap.size wo x1 from by rw [← hx1]; exact (Below.refl _ wo).alloc (Nat.le_refl _) _)
      clear hx1 c0 c1 hld
      generalize wo.heap.size = gh at n0 n1 ⊢
      go_still_tail 7, (by kernel_rfl)
      change wpList _ _ _ _ _ x1.drew
      obtain ⟨h1, h2, h3, hst, hzk⟩ := unhide HH
      have hb1 : Below wo.heap.size wo x1.drew := (unhide HB1).drew
      obtain ⟨bw', bv', ov', K4⟩ := h1.below hb1
      have hts : t.size ≤ maxLen := unhide HTZ
      have HLA := hide (K4.lay z hzk t hts)
      have HH2 := hide (And.intro (h2.only (Only.of_below (P := fun _ => False) hb1) (fun _ _ _ q => q)) (And.intro ((h3.trans (Only.of_below (P := fun x => ¬ X x) hb1) (fun _ _ q => q))) hst))
      clear h1 h2 h3 hst hzk hb1 K4 hts HH HB1
      go_wp2_with fail
      refine (unhide HLA).mono ?_
      rintro e x2 ⟨rfl, hk2, ho2⟩
      have HRR := hide (show CoI w0 w b jb pb D X (fun x => X x ∨ (Value.slice (some ⟨g, o, none⟩) n c).ownBlock = some x) (some ⟨g, o, none⟩) l (k + 1) x2 from by
       obtain ⟨h2, h3, hst⟩ := unhide HH2
       refine ⟨?_, h2.fence ho2 (fun g' o' e => .inr ((unhide HQ).1 g' o' e)), h3.trans ho2 (fun x hx q r => q (.inl r))⟩
       rw [hst]
       exact hk2)
      clear hk2 ho2 HLA HH2
      go_wp2
      go_roundw
      case rel => exact ⟨k + 1, by omega, by go_num, unhide HRR⟩
      case measure => simp [intOf]; omega
     ·have hke : k = n := by omega
      have hkl' : ¬ ((k : Int) < (n : Int)) := by omega
      have HF := hide (show PK w0 wo b jb pb (commitPS S) X ∧ Only (fun x => ¬ X x) w wo from by
       refine ⟨?_, h3⟩
       rw [(unhide HR).2]
       rw [List.take_of_length_le (by omega)] at h1
       rw [show layAll S.keep l S.h = layAll D.keep l D.h from by rw [(unhide HDK).1, (unhide HDK).2]]
       exact PK.more h1 (Below.refl _ _) (fun x hx => Or.inl (Or.inl hx)))
      clear h1 h2 h3
      go_wp2
      go_ret
      rw [(unhide HR).1]
      exact ⟨rfl, unhide HF⟩
   ·have hRS := unhide HRE
    rw [if_neg he] at hRS
    have hne : ((commitR S.s S.nx S.jl S.tx).e != 0) = true := by simpa using he
    have c9' : w3.cell? ⟨pb, 9, none⟩ = some (.bool S.lost) := by rw [K3.blk.cell]; rfl
    have f9 : w3.frozen? ⟨pb, 9, none⟩ = false := K3.blk.frozen 9
    obtain ⟨K4, hO4⟩ := K3.store 9 (.bool true) (lostS (doneS S)) rfl rfl rfl rfl rfl rfl rfl
    have hO04 := step hO03 hO4
    have HEM := hide (hempty_any _ _ pb b jb (lostS (doneS S)).op bw (lostS (doneS S)).keep bv ov (lostS (doneS S)).hits (lostS (doneS S)).mis (lostS (doneS S)).lost (lostS (doneS S)).h K4.blk K4.hn)
    have HU := hide (fun (w5 : World) (a1 : Blk w5 pb (Pcs b jb (lostS (doneS S)).op bw (lostS (doneS S)).keep bv (.slice none 0 0) (lostS (doneS S)).hits (lostS (doneS S)).mis (lostS (doneS S)).lost) 66) (a2 : Hn w5 w0.heap.size [] bv (.slice none 0 0)) (a3 : Only (Hb pb bv ov) (w3.setCell ⟨pb, 9, none⟩ (.bool true)) w5) => show PK w0 w5 b jb pb { doneS S with lost := true, h := [] } X ∧ Only (fun x => ¬ X x) w w5 from by
     have hp1 : ¬ Hb pb bv ov bw := by
      rintro (q | q | q)
      ·exact K4.tx.not_blk K4.blk q.symm
      ·exact K4.ne q
      ·exact K4.tx.not_row K4.hn.ord q
     have hbd := K4.jk.bel.size
     -- the row is gone: nothing of what was at hand is kept
     have r := K4.upd0 (a3.mono (fun x _ q => q.pf)) { doneS S with lost := true, h := [] } rfl rfl rfl rfl a1 (K4.tx.only a3 hp1) a2 (Nat.zero_le _) K4.t16 K4.tok
     exact ⟨PK.more r.1 (Below.refl _ _) (fun x hx => Or.inl (Or.inl hx)), step hO04 r.2⟩)
    have HR := hide hRS
    clear hW2 hpo hO02 hXl hrl hxn K2 hwf htok hO3' hW3 hO03 nP K3 hj3 hO3 HC HY HRE he hRS step K4 hO4 hO04
    generalize (commitR S.s S.nx S.jl S.tx).e = er at *
    go_wp2_with (go_at_call 32; refine (unhide HEM).mono ?_; rintro e w5 ⟨rfl, a1, a2, a3⟩)
    go_ret
    rw [(unhide HR).1, (unhide HR).2]
    exact ⟨rfl, unhide HU w5 a1 a2 a3⟩
end Go.Proofs.YtiellebdliifdaaGreatDoor
namespace Go.Proofs.YtiellebdliifdaaGreatDoor
open Go.RowKit Go.Maps Go.Sort Go.Shelf
set_option maxRecDepth 100000 in
set_option maxHeartbeats 1000000 in
theorem newHand_any (k : Int) (w : World) : Calls Tryz.prog 117 #[.int .i64 k] w fun e w' => ∃ bv, e = .returned (.agg #[.int .i64 k, .map (some bv), .slice none 0 0]) ∧ w.heap.size ≤ bv ∧ Mp w' bv [] ∧ Below w.heap.size w w' := by
 have hmm := @run_makeMap Tryz.prog
 go_enter Tryz.func117, Tryz.ntmps117
 go_wp2
 obtain ⟨w1, hw1⟩ : ∃ w1, w.alloc (.cells #[.int .i64 k, .map (some (w.heap.size + 1)), .slice none 0 0] 64) = w1 := ⟨_, rfl⟩
 have B : Blk (w1.alloc (.map #[] 0)) w.heap.size #[.int .i64 k, .map (some (w.heap.size + 1)), .slice none 0 0] 64 := by rw [← hw1]; exact (Blk.new w _ _).alloc _
 have hs : w1.heap.size = w.heap.size + 1 := by rw [← hw1]; simp
 have hm := Mp.made w1
 rw [hs] at hm
 have hb : Below w.heap.size w (w1.alloc (.map #[] 0)) := by rw [← hw1]; exact ((Below.refl _ w).alloc (Nat.le_refl _) _).alloc (by simp) _
 have hld := load_blk 64 _ B Tryz.underlying64 rfl (by kernel_rfl)
 rw [hw1]
 refine bodyPost_ret (v := .agg #[.int .i64 k, .map (some (w.heap.size + 1)), .slice none 0 0]) (results_cell rfl _ _ _ ⟨w.heap.size, 0, none⟩ rfl _ hld) rfl ⟨_, rfl, by omega, hm, hb⟩
def POk (b : Nat) (keep : Nat) (w1 : World) (jp : Option Addr) (pb bw bv : Nat) (w' : World) : Prop :=
 Blk w' pb #[.pointer (some ⟨b, 0, none⟩), .pointer jp, .bool false, .map (some bw), .int .i64 (keep : Int), .map (some bv), .slice none 0 0, .int .i64 0, .int .i64 0, .bool false] 66 ∧ Mp w' bw [] ∧ Mp w' bv [] ∧ w1.heap.size ≤ pb ∧ w1.heap.size ≤ bw ∧ w1.heap.size ≤ bv ∧ bw ≠ bv ∧ Below w1.heap.size w1 w'
set_option maxRecDepth 100000 in
set_option maxHeartbeats 1000000 in
theorem popen_any (w : World) (b : Nat) (keep : Nat) (hk : keep ≤ 64) (Q : Option Addr → Bool → Int → World → Prop) (hJ : Calls Tryz.prog 116 #[.pointer (some ⟨b, 0, none⟩)] w fun e w' => ∃ jp ag er, e = .returned (.tuple #[.pointer jp, .bool ag, .int .i64 er]) ∧ Q jp ag er w') :
  Calls Tryz.prog 73 #[.pointer (some ⟨b, 0, none⟩), .int .i64 (keep : Int)] w fun e w' => ∃ jp ag er w1, Q jp ag er w1 ∧ ((er ≠ 0 ∧ e = .returned (.tuple #[.pointer none, .int .i64 er]) ∧ w' = w1) ∨ (er = 0 ∧ ∃ pb bw bv, e = .returned (.tuple #[.pointer (some ⟨pb, 0, none⟩), .int .i64 0]) ∧ POk b keep w1 jp pb bw bv w')) := by
 have hd : decide ((keep : Int) < 0) = false := by simp
 have hd2 : decide ((64 : Int) < (keep : Int)) = false := by simp; omega
 have HJ := hide hJ
 have hmm := @run_makeMap Tryz.prog
 clear hJ hk
 go_enter Tryz.func73, Tryz.ntmps73
 go_wp2_with fail
 refine (unhide HJ).mono ?_
 rintro e w1 ⟨jp, ag, er, rfl, hQ⟩
 have HQ := hide hQ
 clear hQ HJ
 by_cases he : er = 0
 ·subst he
  have HN := hide (fun W => newHand_any (keep : Int) W)
  obtain ⟨w2, hw2⟩ : ∃ w2, w1.alloc (.map #[] 0) = w2 := ⟨_, rfl⟩
  have hm2 : Mp w2 w1.heap.size [] := by rw [← hw2]; exact Mp.made w1
  have hb2 : Below w1.heap.size w1 w2 := by rw [← hw2]; exact (Below.refl _ _).alloc (Nat.le_refl _) _
  have HW2 := hide (And.intro hw2 (And.intro hm2 hb2))
  clear hw2 hm2 hb2
  go_wp2_with fail
  rw [(unhide HW2).1]
  refine (unhide HN _).mono ?_
  rintro e w3 ⟨bv, rfl, h1, h2, h3⟩
  have hm3 := (unhide HW2).2.1.below h3 (unhide HW2).2.1.lt
  have hb3 := (unhide HW2).2.2.trans (h3.mono (unhide HW2).2.2.size)
  have hne : w1.heap.size ≠ bv := by have := (unhide HW2).2.1.lt; omega
  have hv3 := (unhide HW2).2.2.size
  have HR := hide (And.intro h1 (And.intro h2 (And.intro hm3 (And.intro hb3 (And.intro hne hv3)))))
  clear h1 h2 h3 hm3 hb3 hne hv3
  obtain ⟨bw, hbw⟩ : ∃ x, w1.heap.size = x := ⟨_, rfl⟩
  have HBW := hide hbw
  rw [hbw]
  rw [hbw] at HR
  clear hbw
  go_wp2
  go_ret2
  obtain ⟨h1, h2, hm3, hb3, hne, hv3⟩ := unhide HR
  refine ⟨jp, ag, 0, w1, unhide HQ, .inr ⟨rfl, w3.heap.size, bw, bv, rfl, Blk.new w3 _ _, hm3.alloc _, h2.alloc _, ?_, ?_, ?_, hne, ?_⟩⟩
  ·exact hb3.size
  ·rw [unhide HBW]; exact Nat.le_refl _
  ·rw [unhide HBW]; omega
  ·rw [unhide HBW]; exact hb3.alloc (by rw [← unhide HBW]; exact hb3.size) _
 ·have hne : (er != 0) = true := by simpa using he
  go_wp2
  go_ret2
  exact ⟨jp, ag, er, _, unhide HQ, .inl ⟨he, rfl, rfl⟩⟩
end Go.Proofs.YtiellebdliifdaaGreatDoor
namespace Go.Proofs.YtiellebdliifdaaGreatDoor
open Go.RowKit Go.Maps Go.Sort Go.Shelf
def rep1 (x : Int) : ByteArray := strOfNums (List.replicate 256 x)
theorem POk.pk {w0 w1 w' : World} {b jb pb bw bv keep nx : Nat} {s : DSt} {X : Nat → Prop} (h : JK w0 w1 b jb s nx false X) (hk : keep ≤ 64) (hP : POk b keep w1 (some ⟨jb, 0, none⟩) pb bw bv w') : PK w0 w' b jb pb { s := s, nx := nx, jl := false, op := false, tx := [], keep := keep, h := [], hits := 0, mis := 0, lost := false } X := by
 obtain ⟨a1, a2, a3, a4, a5, a6, a7, a8⟩ := hP
 have hb := h.bel.size
 refine ⟨bw, bv, .slice none 0 0, h.more a8 _ (fun x hx => ?_), a1, a2, ⟨⟨[], List.Perm.refl _, a3⟩, ⟨rfl, .inl ⟨rfl, rfl⟩⟩, fun p hp => by cases hp⟩, a7, by omega, by omega, by omega, fun x hx q => ?_, Nat.zero_le _, hk, Nat.zero_le _, fun p hp => by cases hp⟩
 ·rcases hx with q | q
  ·exact .inl q
  ·refine .inr ?_
   rcases q with q | q | q | q
   ·rw [q]; exact ⟨a4, a1.lt⟩
   ·rw [q]; exact ⟨a5, a2.lt⟩
   ·rw [q]; exact ⟨a6, a3.lt⟩
   ·simp [Value.ownBlock] at q
 ·have := h.lt x hx
  rcases q with q | q | q | q
  ·omega
  ·omega
  ·omega
  ·simp [Value.ownBlock] at q
end Go.Proofs.YtiellebdliifdaaGreatDoor
namespace Go.Proofs.YtiellebdliifdaaGreatDoor
open Go.RowKit Go.Maps Go.Sort Go.Shelf
def cK (l : List Int) (i : Nat) : Int := 19 + (pickP (l.getD i 0) 109 : Int)
def cB (d : Int) (i : Nat) : ByteArray := rep1 (97 + (i : Int) + d)
def cTx (l : List Int) (d : Int) : Nat → Tx
 | 0 => []
 | k + 1 => txPut (cK l k) (cB d k) (cTx l d k)
def cS (S : PS) (l : List Int) (d : Int) (k : Nat) : PS := { S with op := true, tx := cTx l d k }
end Go.Proofs.YtiellebdliifdaaGreatDoor
namespace Go.Proofs.YtiellebdliifdaaGreatDoor
open Go.RowKit Go.Maps Go.Sort Go.Shelf
end Go.Proofs.YtiellebdliifdaaGreatDoor
namespace Go.Proofs.YtiellebdliifdaaGreatDoor
open Go.RowKit Go.Maps Go.Sort Go.Shelf
structure Rst (S : PS) (L : List ByteArray) (A : List (Nat × Nat)) (nx : Nat) : Prop where
 s : S.s = rs L A
 nx : S.nx = nx
 jl : S.jl = false
 lost : S.lost = false
theorem tx_good {tx : Tx} (hs : Srt tx) (hl : tx.length ≤ 16) (hm : ∀ p ∈ tx, 19 ≤ p.1 ∧ p.1 < 128 ∧ p.2.size = 256) : GoodL tx := by
 refine ⟨hl, fun x hx => ⟨(hm x hx).1, (hm x hx).2.1⟩, ?_, fun x hx => (hm x hx).2.2⟩
 show (tx.map (·.1)).Nodup
 exact List.pairwise_map.2 (hs.imp (fun q => by omega))
theorem commit_rest {S : PS} {L : List ByteArray} {A : List (Nat × Nat)} {nx : Nat} (h : Rst S L A nx) (ho : S.op = true) (hL : L.length = 128) (hg : GoodL S.tx) : commitPE S = 0 ∧ Rst (commitPS S) (comL L nx S.tx) (A ++ comA S.tx) ((nx + 1) % 4294967296) ∧ (commitPS S).op = false ∧ (commitPS S).tx = [] ∧ (commitPS S).keep = S.keep ∧ (commitPS S).h = layAll S.keep S.tx S.h := by
 have hc : commitR S.s S.nx S.jl S.tx = ⟨0, rs (comL L nx S.tx) (A ++ comA S.tx), (nx + 1) % 4294967296, false⟩ := by
  rw [h.s, h.nx, h.jl]
  exact commit_rs L A nx S.tx hL hg
 have e1 : commitPE S = 0 := by unfold commitPE; rw [ho, h.lost, hc]; rfl
 have e2 : commitPS S = { doneS S with h := layAll S.keep S.tx S.h } := by unfold commitPS; rw [ho, h.lost, hc]; rfl
 refine ⟨e1, ?_, by rw [e2]; rfl, by rw [e2]; rfl, by rw [e2]; rfl, by rw [e2]⟩
 rw [e2]
 exact ⟨by show (commitR S.s S.nx S.jl S.tx).s = _; rw [hc], by show (commitR S.s S.nx S.jl S.tx).nx = _; rw [hc], by show (commitR S.s S.nx S.jl S.tx).lost = _; rw [hc], h.lost⟩
theorem read_rest {S : PS} {L : List ByteArray} {A : List (Nat × Nat)} {nx : Nat} (h : Rst S L A nx) (k : Nat) (hk : k < L.length) : (readP S k).2.1 = 0 ∧ Rst (readP S k).2.2 L A nx ∧ (readP S k).2.2.op = S.op ∧ (readP S k).2.2.tx = S.tx ∧ (readP S k).2.2.keep = S.keep := by
 have hh : hasB S.s (k : Int) = true := by rw [h.s]; show (decide (0 ≤ (k : Int)) && decide ((k : Int) < (L.length : Int))) = true; simp; omega
 have hr : readE S.s (k : Int) = 0 := by rw [h.s]; exact (read_rs L A k hk).1
 unfold readP
 rw [hh, h.lost]
 cases ht : txAt S.tx (k : Int) with
 | some t => exact ⟨rfl, h, rfl, rfl, rfl⟩
 | none =>
  cases hf : txAt S.h (k : Int) with
  | some t => exact ⟨rfl, ⟨h.s, h.nx, h.jl, h.lost⟩, rfl, rfl, rfl⟩
  | none =>
   simp only [hr, if_true]
   exact ⟨rfl, ⟨h.s, h.nx, h.jl, h.lost⟩, rfl, rfl, rfl⟩
theorem readT_rest {S : PS} {L : List ByteArray} {A : List (Nat × Nat)} {nx : Nat} (h : Rst S L A nx) (k : Nat) (hk : k < L.length) (hz : ∀ t ∈ L, t.size = 256) : (readT S.s (k : Int)).size ≤ maxLen := by
 rw [h.s, (read_rs L A k hk).2]
 have : (L.getD k ByteArray.empty).size = 256 := hz _ (by rw [List.getD_eq_getElem?_getD, List.getElem?_eq_getElem hk]; exact List.getElem_mem hk)
 rw [this]; decide
theorem write_rest {S : PS} {L : List ByteArray} {A : List (Nat × Nat)} {nx : Nat} (h : Rst S L A nx) (i : Int) (t : ByteArray) : Rst (writeP S i t) L A nx ∧ (writeP S i t).op = S.op ∧ (writeP S i t).keep = S.keep := by
 unfold writeP
 split
 ·exact ⟨⟨h.s, h.nx, h.jl, h.lost⟩, rfl, rfl⟩
 ·exact ⟨h, rfl, rfl⟩
theorem PK.ji {w0 w : World} {b jb pb : Nat} {S : PS} {X : Nat → Prop} (K : PK w0 w b jb pb S X) : JI w0 w b jb S.s S.nx S.jl := by
 obtain ⟨bw, bv, ov, K⟩ := K
 exact K.jk.ji
end Go.Proofs.YtiellebdliifdaaGreatDoor
namespace Go.Proofs.YtiellebdliifdaaGreatDoor
open Go.RowKit Go.Maps Go.Sort Go.Shelf
theorem layP_in (ps : List (Nat × ByteArray)) : ∀ (l : List ByteArray) (k : Nat) (t : ByteArray), ps.Pairwise (fun a b => a.1 ≠ b.1) → (k, t) ∈ ps → k < l.length → (layP l ps).getD k ByteArray.empty = t := by
 induction ps with
 | nil => intro l k t _ h; cases h
 | cons p r ih =>
  intro l k t hp hm hk
  obtain ⟨h1, h2⟩ := List.pairwise_cons.1 hp
  rcases List.mem_cons.1 hm with q | q
  ·subst q
   show (layP (l.set k t) r).getD k ByteArray.empty = t
   rw [layP_skip r _ k (fun p hp e => h1 p hp e.symm)]
   simp [List.getD_eq_getElem?_getD, hk]
  ·exact ih (l.set p.1 p.2) k t h2 q (by simpa using hk)
theorem tx_lay {tx : Tx} (hs : Srt tx) (hm : ∀ p ∈ tx, 19 ≤ p.1) (M : List ByteArray) (k : Nat) (hk : k < M.length) : (layP M (natW tx)).getD k ByteArray.empty = (txAt tx (k : Int)).getD (M.getD k ByteArray.empty) := by
 cases e : txAt tx (k : Int) with
 | none =>
  rw [layP_skip]
  ·rfl
  ·intro p hp q
   obtain ⟨x, hx, rfl⟩ := List.mem_map.1 hp
   have h1 := at_none.1 e x hx
   have h2 := hm x hx
   simp only at q
   omega
 | some t =>
  have hmem := (at_some hs).1 e
  refine layP_in _ M k t ?_ (List.mem_map.2 ⟨_, hmem, by simp⟩) hk
  refine List.pairwise_map.2 (List.Pairwise.imp_of_mem (fun {p q} hp hq h => ?_) hs)
  have := hm p hp
  have := hm q hq
  simp only
  omega
def Hok (h : Tx) (L : List ByteArray) : Prop := ∀ p ∈ h, 19 ≤ p.1 → p.1 < 128 → p.2 = L.getD p.1.toNat ByteArray.empty
theorem hLay_mem' {keep : Nat} {k : Int} {s : ByteArray} {h : Tx} {p : Int × ByteArray} (hp : p ∈ hLay keep k s h) : p = (k, s) ∨ (p ∈ h ∧ p.1 ≠ k) := by
 have := List.mem_of_mem_take hp
 rcases List.mem_cons.1 this with q | q
 ·exact .inl q
 ·exact .inr ((mem_del k h p).1 q)
theorem layAll_mem (keep : Nat) (l : Tx) : ∀ (h : Tx) (p : Int × ByteArray), p ∈ layAll keep l h → p ∈ l ∨ (p ∈ h ∧ ∀ q ∈ l, q.1 ≠ p.1) := by
 induction l with
 | nil => intro h p hp; exact .inr ⟨hp, fun q hq => by cases hq⟩
 | cons x r ih =>
  intro h p hp
  rcases ih (hLay keep x.1 x.2 h) p hp with q | ⟨q, q2⟩
  ·exact .inl (List.mem_cons_of_mem _ q)
  ·rcases hLay_mem' q with e | ⟨e1, e2⟩
   ·exact .inl (by rw [e]; exact List.mem_cons_self ..)
   ·exact .inr ⟨e1, fun y hy => by
     rcases List.mem_cons.1 hy with z | z
     ·rw [z]; exact fun w => e2 w.symm
     ·exact q2 y z⟩
theorem Hok.lay {h : Tx} {L : List ByteArray} (H : Hok h L) (keep k : Nat) (t : ByteArray) (ht : t = L.getD k ByteArray.empty) : Hok (hLay keep (k : Int) t h) L := fun p hp h1 h2 => by
 rcases hLay_mem hp with q | q
 ·subst q; simpa using ht
 ·exact H p q h1 h2
theorem Hok.commit {h : Tx} {L : List ByteArray} (H : Hok h L) (keep nx : Nat) {tx : Tx} (hs : Srt tx) (hl : tx.length ≤ 16) (hm : ∀ p ∈ tx, 19 ≤ p.1 ∧ p.1 < 128) (hL : L.length = 128) : Hok (layAll keep tx h) (comL L nx tx) := fun p hp h1 h2 => by
 have e0 : ((p.1.toNat : Nat) : Int) = p.1 := by omega
 have e1 := com_free L nx tx hl p.1.toNat (by omega)
 rw [e1, tx_lay hs (fun q hq => (hm q hq).1) L p.1.toNat (by omega), e0]
 rcases layAll_mem keep tx h p hp with q | ⟨q1, q2⟩
 ·rw [(at_some hs).2 (show (p.1, p.2) ∈ tx from q)]
  rfl
 ·rw [at_none.2 (fun x hx => q2 x hx)]
  exact H p q1 h1 h2
structure Seen (S : PS) (L : List ByteArray) (A : List (Nat × Nat)) (hn : Nat) (Mw Mn : List ByteArray) : Prop where
 rst : Rst S L A ((hn + 1) % 4294967296)
 len : L.length = 128
 siz : ∀ t ∈ L, t.size = 256
 hd : L.getD 1 ByteArray.empty = headB hn []
 hn : hn < 4294967296
 was : freeQ L Mw
 lw : Mw.length = 128
 ln : Mn.length = 128
 now : ∀ k : Nat, 19 ≤ k → k < 128 → Mn.getD k ByteArray.empty = (txAt S.tx (k : Int)).getD (Mw.getD k ByteArray.empty)
 cl : S.op = false → S.tx = []
 hok : Hok S.h L
theorem Seen.read {S : PS} {L : List ByteArray} {A : List (Nat × Nat)} {hn : Nat} {Mw Mn : List ByteArray} (h : Seen S L A hn Mw Mn) (k : Nat) (h1 : 19 ≤ k) (h2 : k < 128) : (readP S k).1 = Mn.getD k ByteArray.empty ∧ (readP S k).2.1 = 0 ∧ Seen (readP S k).2.2 L A hn Mw Mn ∧ (readP S k).2.2.op = S.op ∧ (readP S k).2.2.tx = S.tx := by
 have hk : k < L.length := by rw [h.len]; exact h2
 obtain ⟨r1, r2, r3, r4, _⟩ := read_rest h.rst k hk
 have hT : readT S.s (k : Int) = L.getD k ByteArray.empty := by rw [h.rst.s]; exact (read_rs L A k hk).2
 have key : (readP S k).1 = Mn.getD k ByteArray.empty ∧ Hok (readP S k).2.2.h L := by
  have hh : hasB S.s (k : Int) = true := by rw [h.rst.s]; show (decide (0 ≤ (k : Int)) && decide ((k : Int) < (L.length : Int))) = true; simp; omega
  have hr : readE S.s (k : Int) = 0 := by rw [h.rst.s]; exact (read_rs L A k hk).1
  rw [h.now k h1 h2, ← h.was k h1 hk]
  unfold readP
  rw [hh, h.rst.lost]
  cases ht : txAt S.tx (k : Int) with
  | some t => exact ⟨rfl, h.hok⟩
  | none =>
   cases hf : txAt S.h (k : Int) with
   | some t =>
    have hmem : ((k : Int), t) ∈ S.h := by
     unfold txAt at hf
     obtain ⟨x, hx, e⟩ := Option.map_eq_some_iff.1 hf
     have a1 := List.mem_of_find?_eq_some hx
     have a2 := List.find?_some hx
     simp only [beq_iff_eq] at a2
     rw [← a2, ← e]
     exact a1
    have ht' := h.hok _ hmem (by show (19 : Int) ≤ (k : Int); omega) (by show (k : Int) < 128; omega)
    simp only [Int.toNat_natCast] at ht'
    exact ⟨ht', h.hok.lay _ k t ht'⟩
   | none =>
    simp only [hr, if_true]
    exact ⟨hT, h.hok.lay _ k _ hT⟩
 exact ⟨key.1, r1, ⟨r2, h.len, h.siz, h.hd, h.hn, h.was, h.lw, h.ln, by rw [r4]; exact h.now, by rw [r3, r4]; exact h.cl, key.2⟩, r3, r4⟩
theorem Seen.begin {S : PS} {L : List ByteArray} {A : List (Nat × Nat)} {hn : Nat} {Mw Mn : List ByteArray} (h : Seen S L A hn Mw Mn) : beginE S = (if S.op then 60 else 0) ∧ Seen (beginS S) L A hn Mw Mn ∧ (beginS S).op = true ∧ (beginS S).tx = S.tx := by
 cases ho : S.op with
 | true => simp [beginE, beginS, ho, h]
 | false =>
  have hl := h.rst.lost
  refine ⟨by simp [beginE, ho, hl], ?_, by simp [beginS, ho, hl], by simp [beginS, ho, hl]⟩
  have e : beginS S = { S with op := true } := by simp [beginS, ho, hl]
  rw [e]
  exact ⟨⟨h.rst.s, h.rst.nx, h.rst.jl, h.rst.lost⟩, h.len, h.siz, h.hd, h.hn, h.was, h.lw, h.ln, h.now, fun q => (by cases q), h.hok⟩
theorem Seen.write {S : PS} {L : List ByteArray} {A : List (Nat × Nat)} {hn : Nat} {Mw Mn : List ByteArray} (h : Seen S L A hn Mw Mn) (hs : Srt S.tx) (ho : S.op = true) (k : Nat) (h1 : 19 ≤ k) (h2 : k < 128) (t : ByteArray) (ht : t.size = 256) (hr : roomB S (k : Int) = true) : refP S (k : Int) t = 0 ∧ Seen (writeP S (k : Int) t) L A hn Mw (Mn.set k t) ∧ (writeP S (k : Int) t).op = true ∧ (writeP S (k : Int) t).tx = txPut (k : Int) t S.tx := by
 have h0 : refP S (k : Int) t = 0 := by
  have e1 : hasB S.s (k : Int) = true := by rw [h.rst.s]; show (decide (0 ≤ (k : Int)) && decide ((k : Int) < (L.length : Int))) = true; have := h.len; simp; omega
  unfold refP
  rw [if_neg (by rw [e1]; simp), if_neg (by omega), if_neg (by omega), if_neg (by simp [ho]), if_neg (by simp [h.rst.lost]), if_pos hr]
 have e : writeP S (k : Int) t = putS S (k : Int) t := by unfold writeP; rw [if_pos h0]
 refine ⟨h0, ?_, by rw [e]; exact ho, by rw [e]; rfl⟩
 rw [e]
 refine ⟨⟨h.rst.s, h.rst.nx, h.rst.jl, h.rst.lost⟩, h.len, h.siz, h.hd, h.hn, h.was, h.lw, by rw [List.length_set]; exact h.ln, fun i a1 a2 => ?_, fun q => (by rw [show (putS S (k : Int) t).op = S.op from rfl, ho] at q; cases q), h.hok⟩
 show _ = (txAt (txPut (k : Int) t S.tx) (i : Int)).getD _
 rw [at_put hs]
 have hln := h.ln
 by_cases hik : i = k
 ·subst hik
  rw [if_pos rfl]
  simp [List.getD_eq_getElem?_getD, show i < Mn.length by omega]
 ·rw [if_neg (by omega), ← h.now i a1 a2]
  simp [List.getD_eq_getElem?_getD, Ne.symm hik]
theorem Seen.commit {S : PS} {L : List ByteArray} {A : List (Nat × Nat)} {hn : Nat} {Mw Mn : List ByteArray} (h : Seen S L A hn Mw Mn) (ho : S.op = true) (hs : Srt S.tx) (hl : S.tx.length ≤ 16) (hm : ∀ p ∈ S.tx, 19 ≤ p.1 ∧ p.1 < 128 ∧ p.2.size = 256) : commitPE S = 0 ∧ Seen (commitPS S) (comL L ((hn + 1) % 4294967296) S.tx) (A ++ comA S.tx) ((hn + 1) % 4294967296) Mn Mn ∧ (commitPS S).op = false := by
 have hg := tx_good hs hl hm
 obtain ⟨e1, e2, e3, e4, e5, e6⟩ := commit_rest h.rst ho h.len hg
 refine ⟨e1, ⟨e2, by rw [comL_len, h.len], com_size L _ S.tx hg h.siz, com_head L _ S.tx (by rw [h.len]; decide), by omega, fun k h1 h2 => ?_, h.ln, h.ln, fun k h1 h2 => by rw [e4]; rfl, fun _ => e4, ?_⟩, e3⟩
 ·rw [comL_len, h.len] at h2
  rw [com_free L _ S.tx hl k h1, tx_lay hs (fun p hp => (hm p hp).1) L k (by rw [h.len]; exact h2), h.now k h1 h2, h.was k h1 (by rw [h.len]; exact h2)]
 ·rw [e6]
  exact h.hok.commit _ _ hs hl (fun p hp => ⟨(hm p hp).1, (hm p hp).2.1⟩) h.len
theorem Seen.none {S : PS} {L : List ByteArray} {A : List (Nat × Nat)} {hn : Nat} {Mw Mn : List ByteArray} (_h : Seen S L A hn Mw Mn) (ho : S.op = false) : commitPE S = 61 ∧ commitPS S = S ∧ abortE S = 61 ∧ abortS S = S := by
 simp [commitPE, commitPS, abortE, abortS, ho]
end Go.Proofs.YtiellebdliifdaaGreatDoor
namespace Go.Proofs.YtiellebdliifdaaGreatDoor
open Go.RowKit Go.Maps Go.Sort Go.Shelf
end Go.Proofs.YtiellebdliifdaaGreatDoor
