import Derived.Test.YtnkaooafenakdaaGreatDoorMp37
import Derived.Test.YtnkaooafenakdaaGreatDoorMp07
import Derived.Deep.RegionHeld3
import Derived.Test.YtnkaooafenakdaaGreatDoorMp17
import Derived.Test.YtnkaooafenakdaaGreatDoorMp02
import Derived.Test.YtnkaooafenakdaaGreatDoorMp12
import Derived.Test.YtnkaooafenakdaaGreatDoorMp31
import Derived.WalkMore
namespace Go.Proofs.YtnkaooafenakdaaGreatDoor
open Go.RowKit Go.Maps Go.Sort Go.Shelf
def roomB (S : PS) (i : Int) : Bool := (txAt S.tx i).isSome || decide ((S.tx.length : Int) < 16)
theorem PKi.room {w0 w : World} {b jb pb : Nat} {S : PS} {X : Nat → Prop} {bw bv : Nat} {ov : Value} (K : PKi w0 w b jb pb S X bw bv ov) (i : Int) (hi : I64k i) :
    Calls Tryz.prog 108 #[.pointer (some ⟨pb, 0, none⟩), .int .i64 i] w fun e w' => e = .returned (.bool (roomB S i)) ∧ w' = w := by
  have c3 : w.cell? ⟨pb, 3, none⟩ = some (.map (some bw)) := by rw [K.blk.cell]; rfl
  have hlk := (K.tx.look hi).1
  have hln := fun ty => K.tx.len ty
  unfold roomB
  clear K hi
  generalize (txAt S.tx i).getD ByteArray.empty = t at *
  generalize (S.tx.length : Int) = n at *
  cases hq : (txAt S.tx i).isSome with
  | true =>
    rw [hq] at hlk
    clear hq
    go_enter Tryz.func108, Tryz.ntmps108
    go_wp2
    go_ret
    exact ⟨by simp, rfl⟩
  | false =>
    rw [hq] at hlk
    clear hq
    go_enter Tryz.func108, Tryz.ntmps108
    go_wp2
    go_ret
    exact ⟨by simp, rfl⟩
/-- Why a sector may not be written. -/
def refP (S : PS) (i : Int) (t : ByteArray) : Int :=
  if hasB S.s i = false then 41 else if i < 19 then 52 else if t.size ≠ 256 then 42 else if S.op = false then 61 else if S.lost then 2 else if roomB S i then 0 else 62
set_option maxRecDepth 100000 in
set_option maxHeartbeats 1000000 in
theorem prefusal_any {w0 w : World} {b jb pb : Nat} {S : PS} {X : Nat → Prop} {bw bv : Nat} {ov : Value} (K : PKi w0 w b jb pb S X bw bv ov) (i : Int) (t : ByteArray) :
    Calls Tryz.prog 44 #[.pointer (some ⟨pb, 0, none⟩), .int .i64 i, .string t] w fun e w' => e = .returned (.int .i64 (refP S i t)) ∧ w' = w := by
  have HH := hide (K.has i)
  have c2 : w.cell? ⟨pb, 2, none⟩ = some (.bool S.op) := by rw [K.blk.cell]; rfl
  have c9 : w.cell? ⟨pb, 9, none⟩ = some (.bool S.lost) := by rw [K.blk.cell]; rfl
  cases hh : hasB S.s i with
  | false =>
    rw [hh] at HH
    have HR := hide (show refP S i t = 41 from by simp [refP, hh])
    clear K hh
    go_enter Tryz.func44, Tryz.ntmps44
    go_wp2_with (go_at_call 52; refine (unhide HH).mono ?_; rintro e w' ⟨rfl, rfl⟩)
    go_ret
    rw [unhide HR]
    exact ⟨rfl, rfl⟩
  | true =>
    rw [hh] at HH
    have hi := hasB_i64 K.jk.sane hh
    have HRM := hide (K.room i hi)
    by_cases h19 : i < 19
    · have hd : decide (i < 19) = true := by simpa using h19
      have HR := hide (show refP S i t = 52 from by simp [refP, hh, h19])
      clear K hh hi HRM h19
      go_enter Tryz.func44, Tryz.ntmps44
      go_wp2_with (go_at_call 52; refine (unhide HH).mono ?_; rintro e w' ⟨rfl, rfl⟩)
      go_ret
      rw [unhide HR]
      exact ⟨rfl, rfl⟩
    · have hd : decide (i < 19) = false := by simpa using h19
      by_cases h256 : t.size = 256
      · have hd2 : ((t.size : Int) != 256) = false := by simp [h256]
        cases ho : S.op with
        | false =>
          rw [ho] at c2
          have HR := hide (show refP S i t = 61 from by simp [refP, hh, h19, h256, ho])
          clear K hh hi HRM h19 h256 ho
          go_enter Tryz.func44, Tryz.ntmps44
          go_wp2_with (go_at_call 52; refine (unhide HH).mono ?_; rintro e w' ⟨rfl, rfl⟩)
          go_ret
          rw [unhide HR]
          exact ⟨rfl, rfl⟩
        | true =>
          rw [ho] at c2
          cases hl : S.lost with
          | true =>
            rw [hl] at c9
            have HR := hide (show refP S i t = 2 from by simp [refP, hh, h19, h256, ho, hl])
            clear K hh hi HRM h19 h256 ho hl
            go_enter Tryz.func44, Tryz.ntmps44
            go_wp2_with (go_at_call 52; refine (unhide HH).mono ?_; rintro e w' ⟨rfl, rfl⟩)
            go_ret
            rw [unhide HR]
            exact ⟨rfl, rfl⟩
          | false =>
            rw [hl] at c9
            cases hr : roomB S i with
            | true =>
              rw [hr] at HRM
              have HR := hide (show refP S i t = 0 from by simp [refP, hh, h19, h256, ho, hl, hr])
              clear K hh hi h19 h256 ho hl hr
              go_enter Tryz.func44, Tryz.ntmps44
              go_wp2_with (first
                | (go_at_call 52; refine (unhide HH).mono ?_; rintro e w' ⟨rfl, rfl⟩)
                | (go_at_call 108; refine (unhide HRM).mono ?_; rintro e w' ⟨rfl, rfl⟩))
              go_ret
              rw [unhide HR]
              exact ⟨rfl, rfl⟩
            | false =>
              rw [hr] at HRM
              have HR := hide (show refP S i t = 62 from by simp [refP, hh, h19, h256, ho, hl, hr])
              clear K hh hi h19 h256 ho hl hr
              go_enter Tryz.func44, Tryz.ntmps44
              go_wp2_with (first
                | (go_at_call 52; refine (unhide HH).mono ?_; rintro e w' ⟨rfl, rfl⟩)
                | (go_at_call 108; refine (unhide HRM).mono ?_; rintro e w' ⟨rfl, rfl⟩))
              go_ret
              rw [unhide HR]
              exact ⟨rfl, rfl⟩
      · have hd2 : ((t.size : Int) != 256) = true := by simp; omega
        have HR := hide (show refP S i t = 42 from by simp [refP, hh, h19, h256])
        clear K hh hi HRM h19 h256
        go_enter Tryz.func44, Tryz.ntmps44
        go_wp2_with (go_at_call 52; refine (unhide HH).mono ?_; rintro e w' ⟨rfl, rfl⟩)
        go_ret
        rw [unhide HR]
        exact ⟨rfl, rfl⟩
def putS (S : PS) (i : Int) (t : ByteArray) : PS := { S with tx := txPut i t S.tx }
def writeP (S : PS) (i : Int) (t : ByteArray) : PS := if refP S i t = 0 then putS S i t else S
theorem refP_ok {S : PS} {i : Int} {t : ByteArray} (h : refP S i t = 0) : hasB S.s i = true ∧ 19 ≤ i ∧ t.size = 256 ∧ S.op = true ∧ S.lost = false ∧ roomB S i = true := by
  unfold refP at h
  split at h
  · omega
  split at h
  · omega
  split at h
  · omega
  split at h
  · omega
  split at h
  · omega
  split at h
  · rename_i h1 h2 h3 h4 h5 h6
    exact ⟨by simpa using h1, by omega, by omega, by simpa using h4, by simpa using h5, h6⟩
  · omega
theorem PKi.below {w0 w w' : World} {b jb pb : Nat} {S : PS} {X : Nat → Prop} {bw bv : Nat} {ov : Value} (K : PKi w0 w b jb pb S X bw bv ov) (hb : Below w.heap.size w w') : PKi w0 w' b jb pb S X bw bv ov := by
  have hO : Only (fun _ => False) w w' := Only.of_below hb
  exact ⟨K.jk.below hb, K.blk.only hO (fun q => q), K.tx.only hO (fun q => q), K.hn.only hO (fun q => q) (fun _ _ q => q), K.ne, K.lo1, K.lo2, K.lo3, K.xn, K.hk, K.kp, K.t16, K.tok⟩
theorem mem_put {k : Int} {s : ByteArray} {l : Tx} {p : Int × ByteArray} (h : p ∈ txPut k s l) : p = (k, s) ∨ p ∈ l := by
  rcases (mem_ins k s _ p).1 h with q | q
  · exact .inl q
  · exact .inr ((mem_del k l p).1 q).1
set_option maxRecDepth 100000 in
set_option maxHeartbeats 1000000 in
theorem pwrite_any {w0 w : World} {b jb pb : Nat} {S : PS} {X : Nat → Prop} (K : PK w0 w b jb pb S X) (i : Int) (t : ByteArray) (ht : t.size ≤ 9223372036854775807) :
    Calls Tryz.prog 12 #[.pointer (some ⟨pb, 0, none⟩), .int .i64 i, .string t] w fun e w' => e = .returned (.int .i64 (refP S i t)) ∧ PK w0 w' b jb pb (writeP S i t) X ∧ Only (fun x => ¬ X x) w w' := by
  obtain ⟨bw, bv, ov, K⟩ := K
  have HF0 := hide (prefusal_any K i t)
  by_cases he : refP S i t = 0
  · obtain ⟨g1, g2, g3, g4, g5, g6⟩ := refP_ok he
    have hi := hasB_i64 K.jk.sane g1
    have HCL := hide (fun W => sclone_any t W (by omega))
    have c3 : w.cell? ⟨pb, 3, none⟩ = some (.map (some bw)) := by rw [K.blk.cell]; rfl
    have HKB := hide (fun (w1 : World) (hb : Below w.heap.size w w1) => K.below hb)
    have HI := hide hi
    have HT := hide (show t.size ≤ maxLen from ht)
    have HLN := hide (show S.tx.length ≤ 1000000 from by have := K.t16; omega)
    have hlen : (txPut i t S.tx).length ≤ 16 := by
      rw [put_len K.tx.2]
      have := K.t16
      unfold roomB at g6
      cases hq : (txAt S.tx i).isSome with
      | true => simpa using this
      | false => rw [hq] at g6; simp at g6; simp; omega
    have HFI := hide (fun (w1 w2 : World) (hb : Below w.heap.size w w1) (K1 : PKi w0 w1 b jb pb S X bw bv ov) (hm2 : Mp w2 bw (txPut i t S.tx)) (hO2 : Only (fun x => x = bw) w1 w2) => show PK w0 w2 b jb pb (putS S i t) X ∧ Only (fun x => ¬ X x) w w2 from by
      have hpw : pb ≠ bw := K1.tx.not_blk K1.blk
      have r := K1.upd (hO2.mono (fun x _ q => .inr (.inl q))) ov (.inl rfl) (putS S i t) rfl rfl rfl rfl (K1.blk.only hO2 (fun q => hpw q)) hm2 (K1.hn.only hO2 (fun q => K1.ne q.symm) (fun x hx q => K1.tx.not_row K1.hn.ord (by rw [hx, q]))) K1.hk hlen (fun p hp => by
        rcases mem_put hp with q | q
        · subst q
          simp [hasB] at g1
          exact ⟨g2, g1.2, g3⟩
        · exact K.tok p q)
      exact ⟨r.1, (Only.of_below hb).trans r.2 (fun _ _ q => q)⟩)
    have HW := hide (show writeP S i t = putS S i t from by unfold writeP; rw [if_pos he])
    rw [he] at HF0 ⊢
    clear K g1 g2 g3 g4 g5 g6 hi hlen he
    go_enter Tryz.func12, Tryz.ntmps12
    go_wp2_with (go_at_call 44; refine (unhide HF0).mono ?_; rintro e w' ⟨rfl, rfl⟩)
    refine wp_region_held_drew (S := fun w' => w'.cell? ⟨pb, 3, none⟩ = some (.map (some bw))) (by kernel_rfl) c3 ?_
    intro hS
    refine wpAnyH_takeD 0 (some 15) (.pointer (some ⟨pb, 0, none⟩)) rfl rfl (by kernel_rfl) (by kernel_rfl) (by kernel_rfl) (fun _ _ _ h => h) (Or.inl ⟨by rfl, fun w hSw => by go_simp⟩) hS ?_
    simp only [Act.put, List.setIfInBounds_toArray, List.set_cons_zero, List.set_cons_succ]
    refine wpAnyH_takeD 1 (some 16) (.pointer (some ⟨pb, 0, none⟩)) rfl rfl (by kernel_rfl) (by kernel_rfl) (by kernel_rfl) (fun _ _ _ h => h) (Or.inl ⟨by rfl, fun w hSw => by go_simp⟩) hS ?_
    simp only [Act.put, List.setIfInBounds_toArray, List.set_cons_zero, List.set_cons_succ]
    refine wpAnyH_takeD 2 (some 17) (.pointer (some ⟨pb, 3, none⟩)) rfl rfl (by kernel_rfl) (by kernel_rfl) (by kernel_rfl) (fun _ _ _ h => h) (Or.inl ⟨by rfl, fun w hSw => by go_simp⟩) hS ?_
    simp only [Act.put, List.setIfInBounds_toArray, List.set_cons_zero, List.set_cons_succ]
    refine wpAnyH_takeD 3 (some 18) (.map (some bw)) rfl rfl (by kernel_rfl) (by kernel_rfl) (by kernel_rfl) (fun _ _ _ h => h) (Or.inl ⟨by rfl, fun w hSw => by have hq : _ = _ := hSw; go_simp⟩) hS ?_
    simp only [Act.put, List.setIfInBounds_toArray, List.set_cons_zero, List.set_cons_succ]
    refine wpAnyH_takeD 4 (some 19) (.int .i64 i) rfl rfl (by kernel_rfl) (by kernel_rfl) (by kernel_rfl) (fun _ _ _ h => h) (Or.inl ⟨by rfl, fun w hSw => by go_simp⟩) hS ?_
    simp only [Act.put, List.setIfInBounds_toArray, List.set_cons_zero, List.set_cons_succ]
    refine wpAnyH_takeD 5 (some 20) (.string t) rfl rfl (by kernel_rfl) (by kernel_rfl) (by kernel_rfl) (fun _ _ _ h => h) (Or.inl ⟨by rfl, fun w hSw => by go_simp⟩) hS ?_
    simp only [Act.put, List.setIfInBounds_toArray, List.set_cons_zero, List.set_cons_succ]
    refine wpAnyH_ready (rs := [6]) (by kernel_rfl) (by simp) ?_
    refine AllReadyH.cons rfl (fun K hK => ?_) AllReadyH.nil
    simp only [List.getElem_toArray, List.getElem_cons_succ, List.getElem_cons_zero]
    go_simp
    refine (unhide HCL _).mono ?_
    rintro e w1 ⟨rfl, hb1⟩
    have hB1 : Below w'.heap.size w' w1 := ((Below.refl _ w').drew).trans hb1
    have K1 := (unhide HKB) w1 hB1
    have c3' : w1.cell? ⟨pb, 3, none⟩ = some (.map (some bw)) := by rw [K1.blk.cell]; rfl
    refine hK.out _ _ c3' (fun hS => ?_)
    clear hK K
    obtain ⟨w2, hrun, hm2, hO2, hs2⟩ := K1.tx.put (unhide HI) t (unhide HT) (unhide HLN)
    have hpw : pb ≠ bw := K1.tx.not_blk K1.blk
    have c3'' : w2.cell? ⟨pb, 3, none⟩ = some (.map (some bw)) := by rw [(K1.blk.only hO2 (fun q => hpw q)).cell]; rfl
    have HF := hide ((unhide HFI) w1 w2 hB1 K1 hm2 hO2)
    clear K1 hm2 hO2 hs2 hpw c3' hB1 hb1
    refine wpAnyH_ready (rs := [7]) (by kernel_rfl) (by simp) ?_
    refine AllReadyH.cons rfl (fun K hK => ?_) AllReadyH.nil
    simp only [List.getElem_toArray, List.getElem_cons_succ, List.getElem_cons_zero]
    go_simp
    refine hK.out _ _ c3'' (fun hS => ?_)
    clear hK K
    refine wpAnyH_done (by kernel_rfl) ?_ _
    go_wp2
    go_ret
    rw [unhide HW]
    exact ⟨rfl, unhide HF⟩
  · have hne : (refP S i t != 0) = true := by simpa using he
    have HW := hide (show writeP S i t = S from by unfold writeP; rw [if_neg he])
    have HK := hide K
    clear K he ht
    generalize refP S i t = er at *
    go_enter Tryz.func12, Tryz.ntmps12
    go_wp2_with (go_at_call 44; refine (unhide HF0).mono ?_; rintro e w' ⟨rfl, rfl⟩)
    go_ret
    rw [unhide HW]
    exact ⟨rfl, (unhide HK).same⟩
end Go.Proofs.YtnkaooafenakdaaGreatDoor

namespace Go.Proofs.YtnkaooafenakdaaGreatDoor
open Go.RowKit Go.Maps Go.Sort Go.Shelf
theorem sortsA (m : Nat) : AnyZI.SortsIn Tryz.prog Tryz.sortedL_ren Fence.wide m :=
  ⟨fun blk off cap ss W hH hblk hsz => callsIn_wide.2 (Tryz.slices_Sort_int blk off cap ss W hH hblk hsz),
   fun p cap W => callsIn_wide.2 (Tryz.slices_Sort_int_none p cap W)⟩
set_option maxRecDepth 100000 in
set_option maxHeartbeats 1000000 in
/-- The numbers of a map, rising, in a new slice. -/
theorem dirty_any (w : World) (bm pb : Nat) (l : Tx) (hm : Mp w bm l) (hl : l.length ≤ 1000000) (c3 : w.cell? ⟨pb, 3, none⟩ = some (.map (some bm))) :
    Calls Tryz.prog 14 #[.pointer (some ⟨pb, 0, none⟩)] w fun e w' => ∃ v, e = .returned v ∧ w'.ownsRow w.heap.size 3 1 v (l.map (·.1)).length ((l.map (·.1)).map encZ) ∧ Below w.heap.size w w' := by
  refine (callsIn_wide (n := 6)).1 ?_
  have hbl := hm.lt
  have hsz : Maps.size (txD l) = l.length := txD_size l
  have hseq : SeqGives Fence.wide 2 Tryz.prog 112 #[.pointer (some ⟨w.heap.size, 0, none⟩)] encZ (fun ss => ss.Perm (intKeys (txD l))) (Maps.size (txD l)) (w.alloc (.cells #[.map (some bm)] 92)) :=
    AnyZI.keys_gives (ρ := Tryz.keysL_ren) { Tryz.keysL with } Fence.wide _ trivial rfl (by omega) w.heap.size bm l.length (txD l) _ (by simp) (by simp) (hm.1.alloc _)
  have cK : ∀ mb W, CallsIn Fence.wide 5 Tryz.prog 47 #[.map mb] W fun e w' => e = .returned (.func (.func 112) #[] #[.pointer (some ⟨W.heap.size, 0, none⟩)]) ∧ w' = W.alloc (.cells #[.map mb] 92) := fun mb W => AnyZI.keys_in Tryz.keysL Fence.wide 5 trivial rfl mb W
  have cS := AnyZI.sorted_in Tryz.sortedL Fence.wide 5 trivial trivial trivial trivial rfl (by omega) (sortsA _) (enters_of Tryz.func111 (by kernel_rfl) rfl) 112 #[.pointer (some ⟨w.heap.size, 0, none⟩)] trivial (enters_of Tryz.func112 (by kernel_rfl) rfl) _ _ (by rw [hsz]; unfold maxLen; omega) (by rw [hsz]; omega) _ hseq
  change CallsIn _ _ Tryz.prog 46 _ _ _ at cS
  have hfK : Fence.wide.fn 47 := trivial
  have hfS : Fence.wide.fn 46 := trivial
  have HS := hide hm.2
  clear hm hsz hseq hl
  refine callsIn_of_wp Tryz.func14 rfl trivial ?_ rfl
  simp only [Tryz.ntmps14, List.size_toArray, List.length_cons, List.length_nil, Nat.reduceAdd, Nat.reduceSub, Array.replicate_succ, Array.replicate_zero, List.push_toArray, List.append_toArray, List.nil_append, List.cons_append]
  gi_wp2_with (first
    | (gi_at_call 47; refine (cK _ _).mono ?_; rintro e w' ⟨rfl, rfl⟩)
    | (gi_at_call 46; refine cS.mono ?_; rintro e w' ⟨v, ss, rfl, hp, hrow, hnil, hb⟩))
  go_ret
  refine ⟨v, rfl, ?_, ((Below.refl _ w).alloc (Nat.le_refl _) _).trans (hb.mono (by simp))⟩
  have h1 := keys_sorted (unhide HS) hp
  have h2 : ss.length = (l.map (·.1)).length := by rw [← h1, List.length_mergeSort]
  rw [h1, h2] at hrow
  exact ownsRow_base_a hrow (by simp)
end Go.Proofs.YtnkaooafenakdaaGreatDoor

namespace Go.Proofs.YtnkaooafenakdaaGreatDoor
open Go.RowKit Go.Maps Go.Sort Go.Shelf
def WrI (w : World) (bm : Nat) (l : Tx) (dv : Value) (k : Nat) (u : Value) (wr : World) : Prop :=
  wr.ownsRow w.heap.size 75 2 u k (wrv (l.take k)) ∧ wr.ownsRow w.heap.size 3 1 dv l.length ((l.map (·.1)).map encZ) ∧ Below w.heap.size w wr ∧ Mp wr bm l
theorem at_nth {l : Tx} (h : Srt l) (k : Nat) (hk : k < l.length) : txAt l l[k].1 = some l[k].2 := (at_some h).2 (List.getElem_mem hk)
set_option maxRecDepth 100000 in
set_option maxHeartbeats 2000000 in
theorem writes_any (w : World) (bm pb : Nat) (l : Tx) (hm : Mp w bm l) (hl : l.length ≤ 1000) (hw : ∀ p ∈ l, I64k p.1) (cur : Array Value) (hB : Blk w pb cur 96) (c3 : cur[3]? = some (.map (some bm))) :
    Calls Tryz.prog 48 #[.pointer (some ⟨pb, 0, none⟩)] w fun e w' => ∃ v, e = .returned v ∧ w'.ownsRow w.heap.size 75 2 v l.length (wrv l) ∧ Below w.heap.size w w' := by
  have HD := hide (dirty_any w bm pb l hm (by omega) (by rw [hB.cell]; exact c3))
  have hpl := hB.lt
  have hml := hm.lt
  obtain ⟨i0, hi0, hz0, hz1, hz2⟩ := info_parts infoWj
  have HI := hide (And.intro hi0 (And.intro hz0 (And.intro hz1 hz2)))
  have HK := hide (And.intro hm (And.intro hB (And.intro c3 hw)))
  clear hi0 hz0 hz1 hz2 hm hB c3 hw
  go_enter Tryz.func48, Tryz.ntmps48
  go_wp2_with fail
  refine (unhide HD).mono ?_
  rintro e w1 ⟨dv, rfl, hr, hb⟩
  rw [List.length_map] at hr
  have X0 := hide (show WrI w bm l dv 0 (.slice none 0 0) w1 from ⟨World.ownsRow_nil _ _ _ _, hr, hb, (unhide HK).1.below hb hml⟩)
  obtain ⟨dp, dc, hdv, _⟩ := row_form hr
  subst hdv
  clear HD hr hb
  go_wp2
  go_loopw [3, 9] (fun u i wr => ∃ k : Nat, k ≤ l.length ∧ i = .int .i64 (k : Int) ∧ WrI w bm l (.slice dp l.length dc) k u wr) (fun _ i _ => l.length - (intOf i).toNat)
  case atStart => exact ⟨0, by omega, rfl, unhide X0⟩
  case round =>
    obtain ⟨k, hk, rfl, h1, h2, h3, h4⟩ := hrel
    obtain ⟨wo, rfl⟩ : ∃ wo, wo = wr := ⟨_, rfl⟩
    clear X0
    obtain ⟨pv, cv, rfl, hcv⟩ := row_form h1
    by_cases hkl : k < l.length
    · have hkl' : (k : Int) < (l.length : Int) := by omega
      obtain ⟨z, hz⟩ : ∃ z, l[k].1 = z := ⟨_, rfl⟩
      obtain ⟨t, ht⟩ : ∃ t, l[k].2 = t := ⟨_, rfl⟩
      have hzk : I64k z := by rw [← hz]; exact (unhide HK).2.2.2 _ (List.getElem_mem hkl)
      have hat : txAt l z = some t := by rw [← hz, ← ht]; exact at_nth h4.2 k hkl
      have hlk := (h4.look hzk).2
      rw [hat] at hlk
      simp only [Option.getD_some] at hlk
      rcases h2.2 with ⟨q, q0⟩ | ⟨g, cap, cu, q, hgb0, hgb, q1, q2, q3, q4⟩
      · omega
      injection q with q5 q6 q7
      subst q5 q7
      have cz : wo.cell? ⟨g, k, none⟩ = some (.int .i64 z) := by
        rw [(show Blk wo g cu 3 from hgb).cell, ← Array.getElem?_toList]
        have e1 : (cu.toList.take (l.length * 1))[k]? = ((l.map (·.1)).map encZ)[k]? := by rw [q4]
        rw [List.getElem?_take_of_lt (by omega)] at e1
        rw [e1, ← hz]
        simp [hkl]
      have cp : wo.cell? ⟨pb, 3, none⟩ = some (.map (some bm)) := by
        have := (unhide HK).2.1.below h3 hpl
        rw [this.cell]; exact (unhide HK).2.2.1
      have hone : wrv (l.take (k + 1)) = wrv (l.take k) ++ wrv [(z, t)] := by
        rw [← wrv_app, List.take_succ_eq_append_getElem hkl, ← hz, ← ht]
      have HRA := hide (show (wo.alloc (.cells #[.int .i64 z, .string t] 75)).ownsRow w.heap.size 75 2 (.slice pv k cv) k (wrv (l.take k)) from h1.alloc _)
      have HXS := hide (show w.heap.size ≤ (wo.alloc (.cells #[.int .i64 z, .string t] 75)).heap.size from by have := h3.size; simp; omega)
      have hgn : (Value.slice pv k cv).ownBlock ≠ some g := (show Blk wo g cu 3 from hgb).not_row (by decide) h1
      have HX := hide (And.intro h2 (And.intro h3 (And.intro h4 (And.intro hone hgn))))
      clear h1 h2 h3 h4 hone hgn hgb q1 q2 q3 q4 q6 hat hz ht hzk hgb0
      generalize hln : l.length = n at *
      have i0' : (0 : Int) ≤ (k : Int) := by omega
      go_wp2_with (refine wpList_append_own _ rfl (.tmp 13) (.tmp 22) 57 rfl w.heap.size 75 i0 (.agg #[.int .i64 0, .string ⟨#[]⟩]) 2 24 Tryz.underlying57 (unhide HI).1 (unhide HI).2.1 (unhide HI).2.2.1 (unhide HI).2.2.2 rfl (by decide) _ k (wrv (l.take k)) rfl (unhide HRA) ⟨wo.heap.size, 0, none⟩ 1 1 (wrv [(z, t)]) rfl rfl (fun q u hu => news_two wo 75 _ _ q u hu) (by simp [wrv, Value.oneCell']) (by unfold maxLen; omega) (by omega) (unhide HXS) ?_)
      intro v5 x5 ho5 hg5 _
      obtain ⟨h2, h3, h4, hone, hgn⟩ := unhide HX
      have hOa : Only (fun _ => False) wo (wo.alloc (.cells #[.int .i64 z, .string t] 75)) := (Only.refl _ _).alloc _
      have hO5 : Only (fun q => (Value.slice pv k cv).ownBlock = some q) (wo.alloc (.cells #[.int .i64 z, .string t] 75)) x5 := (Only.refl _ _).grown hg5 (fun q _ e => e)
      have hnr : ∀ q, (Value.slice pv k cv).ownBlock = some q → w.heap.size ≤ q := fun q hq => ((unhide HRA).lt q hq).1
      have HRR := hide (show WrI w bm l (.slice (some ⟨g, 0, none⟩) n dc) (k + 1) v5 x5 from by
        refine ⟨by rw [hone]; simpa using ho5, ?_, (h3.alloc h3.size _).grown hg5 (unhide HXS) (fun q hq => hnr q hq), (h4.only hOa (fun q => q)).only hO5 (fun q => by have := hnr bm q; omega)⟩
        rw [hln]
        exact owns_only (owns_only h2 hOa (fun _ _ q => q)) hO5 (fun x hx q => hgn (by rw [q]; simpa [Value.ownBlock] using hx.symm)))
      clear ho5 hg5 hO5 hOa hnr HRA h2 h3 h4 hone hgn HX
      go_wp2
      go_roundw
      case rel => exact ⟨k + 1, by omega, by go_num, unhide HRR⟩
      case measure => simp [intOf]; omega
    · have hke : l.length = k := by omega
      have hkl' : ¬ ((k : Int) < (l.length : Int)) := by omega
      rw [List.take_of_length_le (by omega)] at h1
      have HR := hide (And.intro h1 h3)
      have HE := hide hke
      clear h1 h2 h3 h4 hke
      go_wp2
      go_ret
      rw [unhide HE]
      exact ⟨_, rfl, unhide HR⟩
end Go.Proofs.YtnkaooafenakdaaGreatDoor
