import Derived.Test.YtnkaooafenakdaaGreatDoorMr42
import Derived.Test.YtnkaooafenakdaaGreatDoorMr14
import Derived.Test.YtnkaooafenakdaaGreatDoorMr39
import Derived.Test.YtnkaooafenakdaaGreatDoorMr09
import Derived.Test.YtnkaooafenakdaaGreatDoorMr28
import Derived.WalkMore
namespace Go.Proofs.YtnkaooafenakdaaGreatDoor
open Go.RowKit Go.Maps Go.Sort Go.Shelf
theorem sortsA (m : Nat) : AnyZI.SortsIn Tryz.prog Tryz.sortedL_ren Fence.wide m :=
  ⟨fun blk off cap ss W hH hblk hsz => callsIn_wide.2 (Tryz.slices_Sort_int blk off cap ss W hH hblk hsz),
   fun p cap W => callsIn_wide.2 (Tryz.slices_Sort_int_none p cap W)⟩
set_option maxRecDepth 100000 in
set_option maxHeartbeats 1000000 in
/-- The numbers of a map, rising, in a new slice. -/
theorem dirty_any (w : World) (bm pb : Nat) (l : Tx) (hm : Mp w bm l) (hl : l.length ≤ 1000000) (c3 : w.cell? ⟨pb, 3, none⟩ = some (.map (some bm))) :
    Calls Tryz.prog 14 #[.pointer (some ⟨pb, 0, none⟩)] w fun e w' => ∃ v, e = .returned v ∧ w'.ownsRow w.heap.size 3 1 v (l.map (·.1)).length ((l.map (·.1)).map encZ) ∧ Below w.heap.size w w' := by
  refine (callsIn_wide (n := 6)).1 ?_
  have hbl := hm.lt
  have hsz : Maps.size (txD l) = l.length := txD_size l
  have hseq : SeqGives Fence.wide 2 Tryz.prog 112 #[.pointer (some ⟨w.heap.size, 0, none⟩)] encZ (fun ss => ss.Perm (intKeys (txD l))) (Maps.size (txD l)) (w.alloc (.cells #[.map (some bm)] 92)) :=
    AnyZI.keys_gives (ρ := Tryz.keysL_ren) { Tryz.keysL with } Fence.wide _ trivial rfl (by omega) w.heap.size bm l.length (txD l) _ (by simp) (by simp) (hm.1.alloc _)
  have cK : ∀ mb W, CallsIn Fence.wide 5 Tryz.prog 47 #[.map mb] W fun e w' => e = .returned (.func (.func 112) #[] #[.pointer (some ⟨W.heap.size, 0, none⟩)]) ∧ w' = W.alloc (.cells #[.map mb] 92) := fun mb W => AnyZI.keys_in Tryz.keysL Fence.wide 5 trivial rfl mb W
  have cS := AnyZI.sorted_in Tryz.sortedL Fence.wide 5 trivial trivial trivial trivial rfl (by omega) (sortsA _) (enters_of Tryz.func111 (by kernel_rfl) rfl) 112 #[.pointer (some ⟨w.heap.size, 0, none⟩)] trivial (enters_of Tryz.func112 (by kernel_rfl) rfl) _ _ (by rw [hsz]; unfold maxLen; omega) (by rw [hsz]; omega) _ hseq
  change CallsIn _ _ Tryz.prog 46 _ _ _ at cS
  have hfK : Fence.wide.fn 47 := trivial
  have hfS : Fence.wide.fn 46 := trivial
  have HS := hide hm.2
  clear hm hsz hseq hl
  refine callsIn_of_wp Tryz.func14 rfl trivial ?_ rfl
  simp only [Tryz.ntmps14, List.size_toArray, List.length_cons, List.length_nil, Nat.reduceAdd, Nat.reduceSub, Array.replicate_succ, Array.replicate_zero, List.push_toArray, List.append_toArray, List.nil_append, List.cons_append]
  gi_wp2_with (first
    | (gi_at_call 47; refine (cK _ _).mono ?_; rintro e w' ⟨rfl, rfl⟩)
    | (gi_at_call 46; refine cS.mono ?_; rintro e w' ⟨v, ss, rfl, hp, hrow, hnil, hb⟩))
  go_ret
  refine ⟨v, rfl, ?_, ((Below.refl _ w).alloc (Nat.le_refl _) _).trans (hb.mono (by simp))⟩
  have h1 := keys_sorted (unhide HS) hp
  have h2 : ss.length = (l.map (·.1)).length := by rw [← h1, List.length_mergeSort]
  rw [h1, h2] at hrow
  exact ownsRow_base_a hrow (by simp)
end Go.Proofs.YtnkaooafenakdaaGreatDoor

namespace Go.Proofs.YtnkaooafenakdaaGreatDoor
open Go.RowKit Go.Maps Go.Sort Go.Shelf
def WrI (w : World) (bm : Nat) (l : Tx) (dv : Value) (k : Nat) (u : Value) (wr : World) : Prop :=
  wr.ownsRow w.heap.size 75 2 u k (wrv (l.take k)) ∧ wr.ownsRow w.heap.size 3 1 dv l.length ((l.map (·.1)).map encZ) ∧ Below w.heap.size w wr ∧ Mp wr bm l
theorem at_nth {l : Tx} (h : Srt l) (k : Nat) (hk : k < l.length) : txAt l l[k].1 = some l[k].2 := (at_some h).2 (List.getElem_mem hk)
set_option maxRecDepth 100000 in
set_option maxHeartbeats 2000000 in
theorem writes_any (w : World) (bm pb : Nat) (l : Tx) (hm : Mp w bm l) (hl : l.length ≤ 1000) (hw : ∀ p ∈ l, I64k p.1) (cur : Array Value) (hB : Blk w pb cur 96) (c3 : cur[3]? = some (.map (some bm))) :
    Calls Tryz.prog 48 #[.pointer (some ⟨pb, 0, none⟩)] w fun e w' => ∃ v, e = .returned v ∧ w'.ownsRow w.heap.size 75 2 v l.length (wrv l) ∧ Below w.heap.size w w' := by
  have HD := hide (dirty_any w bm pb l hm (by omega) (by rw [hB.cell]; exact c3))
  have hpl := hB.lt
  have hml := hm.lt
  obtain ⟨i0, hi0, hz0, hz1, hz2⟩ := info_parts infoWj
  have HI := hide (And.intro hi0 (And.intro hz0 (And.intro hz1 hz2)))
  have HK := hide (And.intro hm (And.intro hB (And.intro c3 hw)))
  clear hi0 hz0 hz1 hz2 hm hB c3 hw
  go_enter Tryz.func48, Tryz.ntmps48
  go_wp2_with fail
  refine (unhide HD).mono ?_
  rintro e w1 ⟨dv, rfl, hr, hb⟩
  rw [List.length_map] at hr
  have X0 := hide (show WrI w bm l dv 0 (.slice none 0 0) w1 from ⟨World.ownsRow_nil _ _ _ _, hr, hb, (unhide HK).1.below hb hml⟩)
  obtain ⟨dp, dc, hdv, _⟩ := row_form hr
  subst hdv
  clear HD hr hb
  go_wp2
  go_loopw [3, 9] (fun u i wr => ∃ k : Nat, k ≤ l.length ∧ i = .int .i64 (k : Int) ∧ WrI w bm l (.slice dp l.length dc) k u wr) (fun _ i _ => l.length - (intOf i).toNat)
  case atStart => exact ⟨0, by omega, rfl, unhide X0⟩
  case round =>
    obtain ⟨k, hk, rfl, h1, h2, h3, h4⟩ := hrel
    obtain ⟨wo, rfl⟩ : ∃ wo, wo = wr := ⟨_, rfl⟩
    clear X0
    obtain ⟨pv, cv, rfl, hcv⟩ := row_form h1
    by_cases hkl : k < l.length
    · have hkl' : (k : Int) < (l.length : Int) := by omega
      obtain ⟨z, hz⟩ : ∃ z, l[k].1 = z := ⟨_, rfl⟩
      obtain ⟨t, ht⟩ : ∃ t, l[k].2 = t := ⟨_, rfl⟩
      have hzk : I64k z := by rw [← hz]; exact (unhide HK).2.2.2 _ (List.getElem_mem hkl)
      have hat : txAt l z = some t := by rw [← hz, ← ht]; exact at_nth h4.2 k hkl
      have hlk := (h4.look hzk).2
      rw [hat] at hlk
      simp only [Option.getD_some] at hlk
      rcases h2.2 with ⟨q, q0⟩ | ⟨g, cap, cu, q, hgb0, hgb, q1, q2, q3, q4⟩
      · omega
      injection q with q5 q6 q7
      subst q5 q7
      have cz : wo.cell? ⟨g, k, none⟩ = some (.int .i64 z) := by
        rw [(show Blk wo g cu 3 from hgb).cell, ← Array.getElem?_toList]
        have e1 : (cu.toList.take (l.length * 1))[k]? = ((l.map (·.1)).map encZ)[k]? := by rw [q4]
        rw [List.getElem?_take_of_lt (by omega)] at e1
        rw [e1, ← hz]
        simp [hkl]
      have cp : wo.cell? ⟨pb, 3, none⟩ = some (.map (some bm)) := by
        have := (unhide HK).2.1.below h3 hpl
        rw [this.cell]; exact (unhide HK).2.2.1
      have hone : wrv (l.take (k + 1)) = wrv (l.take k) ++ wrv [(z, t)] := by
        rw [← wrv_app, List.take_succ_eq_append_getElem hkl, ← hz, ← ht]
      have HRA := hide (show (wo.alloc (.cells #[.int .i64 z, .string t] 75)).ownsRow w.heap.size 75 2 (.slice pv k cv) k (wrv (l.take k)) from h1.alloc _)
      have HXS := hide (show w.heap.size ≤ (wo.alloc (.cells #[.int .i64 z, .string t] 75)).heap.size from by have := h3.size; simp; omega)
      have hgn : (Value.slice pv k cv).ownBlock ≠ some g := (show Blk wo g cu 3 from hgb).not_row (by decide) h1
      have HX := hide (And.intro h2 (And.intro h3 (And.intro h4 (And.intro hone hgn))))
      clear h1 h2 h3 h4 hone hgn hgb q1 q2 q3 q4 q6 hat hz ht hzk hgb0
      generalize hln : l.length = n at *
      have i0' : (0 : Int) ≤ (k : Int) := by omega
      go_wp2_with (refine wpList_append_own _ rfl (.tmp 13) (.tmp 22) 57 rfl w.heap.size 75 i0 (.agg #[.int .i64 0, .string ⟨#[]⟩]) 2 24 Tryz.underlying57 (unhide HI).1 (unhide HI).2.1 (unhide HI).2.2.1 (unhide HI).2.2.2 rfl (by decide) _ k (wrv (l.take k)) rfl (unhide HRA) ⟨wo.heap.size, 0, none⟩ 1 1 (wrv [(z, t)]) rfl rfl (fun q u hu => news_two wo 75 _ _ q u hu) (by simp [wrv, Value.oneCell']) (by unfold maxLen; omega) (by omega) (unhide HXS) ?_)
      intro v5 x5 ho5 hg5 _
      obtain ⟨h2, h3, h4, hone, hgn⟩ := unhide HX
      have hOa : Only (fun _ => False) wo (wo.alloc (.cells #[.int .i64 z, .string t] 75)) := (Only.refl _ _).alloc _
      have hO5 : Only (fun q => (Value.slice pv k cv).ownBlock = some q) (wo.alloc (.cells #[.int .i64 z, .string t] 75)) x5 := (Only.refl _ _).grown hg5 (fun q _ e => e)
      have hnr : ∀ q, (Value.slice pv k cv).ownBlock = some q → w.heap.size ≤ q := fun q hq => ((unhide HRA).lt q hq).1
      have HRR := hide (show WrI w bm l (.slice (some ⟨g, 0, none⟩) n dc) (k + 1) v5 x5 from by
        refine ⟨by rw [hone]; simpa using ho5, ?_, (h3.alloc h3.size _).grown hg5 (unhide HXS) (fun q hq => hnr q hq), (h4.only hOa (fun q => q)).only hO5 (fun q => by have := hnr bm q; omega)⟩
        rw [hln]
        exact owns_only (owns_only h2 hOa (fun _ _ q => q)) hO5 (fun x hx q => hgn (by rw [q]; simpa [Value.ownBlock] using hx.symm)))
      clear ho5 hg5 hO5 hOa hnr HRA h2 h3 h4 hone hgn HX
      go_wp2
      go_roundw
      case rel => exact ⟨k + 1, by omega, by go_num, unhide HRR⟩
      case measure => simp [intOf]; omega
    · have hke : l.length = k := by omega
      have hkl' : ¬ ((k : Int) < (l.length : Int)) := by omega
      rw [List.take_of_length_le (by omega)] at h1
      have HR := hide (And.intro h1 h3)
      have HE := hide hke
      clear h1 h2 h3 h4 hke
      go_wp2
      go_ret
      rw [unhide HE]
      exact ⟨_, rfl, unhide HR⟩
end Go.Proofs.YtnkaooafenakdaaGreatDoor
