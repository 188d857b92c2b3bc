import Derived.Test.YtiellebdliifdaaGreatDoorMt20
import Derived.Test.YtiellebdliifdaaGreatDoorMt05
import Derived.Deep.RegionHeld3
import Derived.Test.YtiellebdliifdaaGreatDoorMt10
import Derived.Test.YtiellebdliifdaaGreatDoorMt12
namespace Go.Proofs.YtiellebdliifdaaGreatDoor
open Go.RowKit Go.Maps Go.Sort Go.Shelf
def roomB (S : PS) (i : Int) : Bool := (txAt S.tx i).isSome || decide ((S.tx.length : Int) < 16)
theorem PKi.room {w0 w : World} {b jb pb : Nat} {S : PS} {X : Nat → Prop} {bw bv : Nat} {ov : Value} (K : PKi w0 w b jb pb S X bw bv ov) (i : Int) (hi : I64k i) :
  Calls Tryz.prog 185 #[.pointer (some ⟨pb, 0, none⟩), .int .i64 i] w fun e w' => e = .returned (.bool (roomB S i)) ∧ w' = w := by
 have c3 : w.cell? ⟨pb, 3, none⟩ = some (.map (some bw)) := by rw [K.blk.cell]; rfl
 have hlk := (K.tx.look hi).1
 have hln := fun ty => K.tx.len ty
 unfold roomB
 clear K hi
 generalize (txAt S.tx i).getD ByteArray.empty = t at *
 generalize (S.tx.length : Int) = n at *
 cases hq : (txAt S.tx i).isSome with
 | true =>
  rw [hq] at hlk
  clear hq
  go_enter Tryz.func185, Tryz.ntmps185
  go_wp2
  go_ret
  exact ⟨by simp, rfl⟩
 | false =>
  rw [hq] at hlk
  clear hq
  go_enter Tryz.func185, Tryz.ntmps185
  go_wp2
  go_ret
  exact ⟨by simp, rfl⟩
def refP (S : PS) (i : Int) (t : ByteArray) : Int :=
 if hasB S.s i = false then 41 else if i < 19 then 52 else if t.size ≠ 256 then 42 else if S.op = false then 61 else if S.lost then 2 else if roomB S i then 0 else 62
set_option maxRecDepth 100000 in
set_option maxHeartbeats 1000000 in
theorem prefusal_any {w0 w : World} {b jb pb : Nat} {S : PS} {X : Nat → Prop} {bw bv : Nat} {ov : Value} (K : PKi w0 w b jb pb S X bw bv ov) (i : Int) (t : ByteArray) :
  Calls Tryz.prog 152 #[.pointer (some ⟨pb, 0, none⟩), .int .i64 i, .string t] w fun e w' => e = .returned (.int .i64 (refP S i t)) ∧ w' = w := by
 have HH := hide (K.has i)
 have c2 : w.cell? ⟨pb, 2, none⟩ = some (.bool S.op) := by rw [K.blk.cell]; rfl
 have c9 : w.cell? ⟨pb, 9, none⟩ = some (.bool S.lost) := by rw [K.blk.cell]; rfl
 cases hh : hasB S.s i with
 | false =>
  rw [hh] at HH
  have HR := hide (show refP S i t = 41 from by simp [refP, hh])
  clear K hh
  go_enter Tryz.func152, Tryz.ntmps152
  go_wp2_with (go_at_call 177; refine (unhide HH).mono ?_; rintro e w' ⟨rfl, rfl⟩)
  go_ret
  rw [unhide HR]
  exact ⟨rfl, rfl⟩
 | true =>
  rw [hh] at HH
  have hi := hasB_i64 K.jk.sane hh
  have HRM := hide (K.room i hi)
  by_cases h19 : i < 19
  ·have hd : decide (i < 19) = true := by simpa using h19
   have HR := hide (show refP S i t = 52 from by simp [refP, hh, h19])
   clear K hh hi HRM h19
   go_enter Tryz.func152, Tryz.ntmps152
   go_wp2_with (go_at_call 177; refine (unhide HH).mono ?_; rintro e w' ⟨rfl, rfl⟩)
   go_ret
   rw [unhide HR]
   exact ⟨rfl, rfl⟩
  ·have hd : decide (i < 19) = false := by simpa using h19
   by_cases h256 : t.size = 256
   ·have hd2 : ((t.size : Int) != 256) = false := by simp [h256]
    cases ho : S.op with
    | false =>
     rw [ho] at c2
     have HR := hide (show refP S i t = 61 from by simp [refP, hh, h19, h256, ho])
     clear K hh hi HRM h19 h256 ho
     go_enter Tryz.func152, Tryz.ntmps152
     go_wp2_with (go_at_call 177; refine (unhide HH).mono ?_; rintro e w' ⟨rfl, rfl⟩)
     go_ret
     rw [unhide HR]
     exact ⟨rfl, rfl⟩
    | true =>
     rw [ho] at c2
     cases hl : S.lost with
     | true =>
      rw [hl] at c9
      have HR := hide (show refP S i t = 2 from by simp [refP, hh, h19, h256, ho, hl])
      clear K hh hi HRM h19 h256 ho hl
      go_enter Tryz.func152, Tryz.ntmps152
      go_wp2_with (go_at_call 177; refine (unhide HH).mono ?_; rintro e w' ⟨rfl, rfl⟩)
      go_ret
      rw [unhide HR]
      exact ⟨rfl, rfl⟩
     | false =>
      rw [hl] at c9
      cases hr : roomB S i with
      | true =>
       rw [hr] at HRM
       have HR := hide (show refP S i t = 0 from by simp [refP, hh, h19, h256, ho, hl, hr])
       clear K hh hi h19 h256 ho hl hr
       go_enter Tryz.func152, Tryz.ntmps152
       go_wp2_with (first
        | (go_at_call 177; refine (unhide HH).mono ?_; rintro e w' ⟨rfl, rfl⟩)
        | (go_at_call 185; refine (unhide HRM).mono ?_; rintro e w' ⟨rfl, rfl⟩))
       go_ret
       rw [unhide HR]
       exact ⟨rfl, rfl⟩
      | false =>
       rw [hr] at HRM
       have HR := hide (show refP S i t = 62 from by simp [refP, hh, h19, h256, ho, hl, hr])
       clear K hh hi h19 h256 ho hl hr
       go_enter Tryz.func152, Tryz.ntmps152
       go_wp2_with (first
        | (go_at_call 177; refine (unhide HH).mono ?_; rintro e w' ⟨rfl, rfl⟩)
        | (go_at_call 185; refine (unhide HRM).mono ?_; rintro e w' ⟨rfl, rfl⟩))
       go_ret
       rw [unhide HR]
       exact ⟨rfl, rfl⟩
   ·have hd2 : ((t.size : Int) != 256) = true := by simp; omega
    have HR := hide (show refP S i t = 42 from by simp [refP, hh, h19, h256])
    clear K hh hi HRM h19 h256
    go_enter Tryz.func152, Tryz.ntmps152
    go_wp2_with (go_at_call 177; refine (unhide HH).mono ?_; rintro e w' ⟨rfl, rfl⟩)
    go_ret
    rw [unhide HR]
    exact ⟨rfl, rfl⟩
def putS (S : PS) (i : Int) (t : ByteArray) : PS := { S with tx := txPut i t S.tx }
def writeP (S : PS) (i : Int) (t : ByteArray) : PS := if refP S i t = 0 then putS S i t else S
theorem refP_ok {S : PS} {i : Int} {t : ByteArray} (h : refP S i t = 0) : hasB S.s i = true ∧ 19 ≤ i ∧ t.size = 256 ∧ S.op = true ∧ S.lost = false ∧ roomB S i = true := by
 unfold refP at h
 split at h
 ·omega
 split at h
 ·omega
 split at h
 ·omega
 split at h
 ·omega
 split at h
 ·omega
 split at h
 ·rename_i h1 h2 h3 h4 h5 h6
  exact ⟨by simpa using h1, by omega, by omega, by simpa using h4, by simpa using h5, h6⟩
 ·omega
theorem PKi.below {w0 w w' : World} {b jb pb : Nat} {S : PS} {X : Nat → Prop} {bw bv : Nat} {ov : Value} (K : PKi w0 w b jb pb S X bw bv ov) (hb : Below w.heap.size w w') : PKi w0 w' b jb pb S X bw bv ov := by
 have hO : Only (fun _ => False) w w' := Only.of_below hb
 exact ⟨K.jk.below hb, K.blk.only hO (fun q => q), K.tx.only hO (fun q => q), K.hn.only hO (fun q => q) (fun _ _ q => q), K.ne, K.lo1, K.lo2, K.lo3, K.xn, K.hk, K.kp, K.t16, K.tok⟩
theorem mem_put {k : Int} {s : ByteArray} {l : Tx} {p : Int × ByteArray} (h : p ∈ txPut k s l) : p = (k, s) ∨ p ∈ l := by
 rcases (mem_ins k s _ p).1 h with q | q
 ·exact .inl q
 ·exact .inr ((mem_del k l p).1 q).1
set_option maxRecDepth 100000 in
set_option maxHeartbeats 1000000 in
theorem pwrite_any {w0 w : World} {b jb pb : Nat} {S : PS} {X : Nat → Prop} (K : PK w0 w b jb pb S X) (i : Int) (t : ByteArray) (ht : t.size ≤ 9223372036854775807) :
  Calls Tryz.prog 101 #[.pointer (some ⟨pb, 0, none⟩), .int .i64 i, .string t] w fun e w' => e = .returned (.int .i64 (refP S i t)) ∧ PK w0 w' b jb pb (writeP S i t) X ∧ Only (fun x => ¬ X x) w w' := by
 obtain ⟨bw, bv, ov, K⟩ := K
 have HF0 := hide (prefusal_any K i t)
 by_cases he : refP S i t = 0
 ·obtain ⟨g1, g2, g3, g4, g5, g6⟩ := refP_ok he
  have hi := hasB_i64 K.jk.sane g1
  have HCL := hide (fun W => sclone_any t W (by omega))
  have c3 : w.cell? ⟨pb, 3, none⟩ = some (.map (some bw)) := by rw [K.blk.cell]; rfl
  have HKB := hide (fun (w1 : World) (hb : Below w.heap.size w w1) => K.below hb)
  have HI := hide hi
  have HT := hide (show t.size ≤ maxLen from ht)
  have HLN := hide (show S.tx.length ≤ 1000000 from by have := K.t16; omega)
  have hlen : (txPut i t S.tx).length ≤ 16 := by
   rw [put_len K.tx.2]
   have := K.t16
   unfold roomB at g6
   cases hq : (txAt S.tx i).isSome with
   | true => simpa using this
   | false => rw [hq] at g6; simp at g6; simp; omega
  have HFI := hide (fun (w1 w2 : World) (hb : Below w.heap.size w w1) (K1 : PKi w0 w1 b jb pb S X bw bv ov) (hm2 : Mp w2 bw (txPut i t S.tx)) (hO2 : Only (fun x => x = bw) w1 w2) => show PK w0 w2 b jb pb (putS S i t) X ∧ Only (fun x => ¬ X x) w w2 from by
   have hpw : pb ≠ bw := K1.tx.not_blk K1.blk
   have r := K1.upd (hO2.mono (fun x _ q => .inr (.inl q))) ov (.inl rfl) (putS S i t) rfl rfl rfl rfl (K1.blk.only hO2 (fun q => hpw q)) hm2 (K1.hn.only hO2 (fun q => K1.ne q.symm) (fun x hx q => K1.tx.not_row K1.hn.ord (by rw [hx, q]))) K1.hk hlen (fun p hp => by
    rcases mem_put hp with q | q
    ·subst q
     simp [hasB] at g1
     exact ⟨g2, g1.2, g3⟩
    ·exact K.tok p q)
   exact ⟨r.1, (Only.of_below hb).trans r.2 (fun _ _ q => q)⟩)
  have HW := hide (show writeP S i t = putS S i t from by unfold writeP; rw [if_pos he])
  rw [he] at HF0 ⊢
  clear K g1 g2 g3 g4 g5 g6 hi hlen he
  go_enter Tryz.func101, Tryz.ntmps101
  go_wp2_with (go_at_call 152; refine (unhide HF0).mono ?_; rintro e w' ⟨rfl, rfl⟩)
  refine wp_region_held_drew (S := fun w' => w'.cell? ⟨pb, 3, none⟩ = some (.map (some bw))) (by kernel_rfl) c3 ?_
  intro hS
  refine wpAnyH_takeD 0 (some 15) (.pointer (some ⟨pb, 0, none⟩)) rfl rfl (by kernel_rfl) (by kernel_rfl) (by kernel_rfl) (fun _ _ _ h => h) (Or.inl ⟨by rfl, fun w hSw => by go_simp⟩) hS ?_
  simp only [Act.put, List.setIfInBounds_toArray, List.set_cons_zero, List.set_cons_succ]
  refine wpAnyH_takeD 1 (some 16) (.pointer (some ⟨pb, 0, none⟩)) rfl rfl (by kernel_rfl) (by kernel_rfl) (by kernel_rfl) (fun _ _ _ h => h) (Or.inl ⟨by rfl, fun w hSw => by go_simp⟩) hS ?_
  simp only [Act.put, List.setIfInBounds_toArray, List.set_cons_zero, List.set_cons_succ]
  refine wpAnyH_takeD 2 (some 17) (.pointer (some ⟨pb, 3, none⟩)) rfl rfl (by kernel_rfl) (by kernel_rfl) (by kernel_rfl) (fun _ _ _ h => h) (Or.inl ⟨by rfl, fun w hSw => by go_simp⟩) hS ?_
  simp only [Act.put, List.setIfInBounds_toArray, List.set_cons_zero, List.set_cons_succ]
  refine wpAnyH_takeD 3 (some 18) (.map (some bw)) rfl rfl (by kernel_rfl) (by kernel_rfl) (by kernel_rfl) (fun _ _ _ h => h) (Or.inl ⟨by rfl, fun w hSw => by have hq : _ = _ := hSw; go_simp⟩) hS ?_
  simp only [Act.put, List.setIfInBounds_toArray, List.set_cons_zero, List.set_cons_succ]
  refine wpAnyH_takeD 4 (some 19) (.int .i64 i) rfl rfl (by kernel_rfl) (by kernel_rfl) (by kernel_rfl) (fun _ _ _ h => h) (Or.inl ⟨by rfl, fun w hSw => by go_simp⟩) hS ?_
  simp only [Act.put, List.setIfInBounds_toArray, List.set_cons_zero, List.set_cons_succ]
  refine wpAnyH_takeD 5 (some 20) (.string t) rfl rfl (by kernel_rfl) (by kernel_rfl) (by kernel_rfl) (fun _ _ _ h => h) (Or.inl ⟨by rfl, fun w hSw => by go_simp⟩) hS ?_
  simp only [Act.put, List.setIfInBounds_toArray, List.set_cons_zero, List.set_cons_succ]
  refine wpAnyH_ready (rs := [6]) (by kernel_rfl) (by simp) ?_
  refine AllReadyH.cons rfl (fun K hK => ?_) AllReadyH.nil
  simp only [List.getElem_toArray, List.getElem_cons_succ, List.getElem_cons_zero]
  go_simp
  refine (unhide HCL _).mono ?_
  rintro e w1 ⟨rfl, hb1⟩
  have hB1 : Below w'.heap.size w' w1 := ((Below.refl _ w').drew).trans hb1
  have K1 := (unhide HKB) w1 hB1
  have c3' : w1.cell? ⟨pb, 3, none⟩ = some (.map (some bw)) := by rw [K1.blk.cell]; rfl
  refine hK.out _ _ c3' (fun hS => ?_)
  clear hK K
  obtain ⟨w2, hrun, hm2, hO2, hs2⟩ := K1.tx.put (unhide HI) t (unhide HT) (unhide HLN)
  have hpw : pb ≠ bw := K1.tx.not_blk K1.blk
  have c3'' : w2.cell? ⟨pb, 3, none⟩ = some (.map (some bw)) := by rw [(K1.blk.only hO2 (fun q => hpw q)).cell]; rfl
  have HF := hide ((unhide HFI) w1 w2 hB1 K1 hm2 hO2)
  clear K1 hm2 hO2 hs2 hpw c3' hB1 hb1
  refine wpAnyH_ready (rs := [7]) (by kernel_rfl) (by simp) ?_
  refine AllReadyH.cons rfl (fun K hK => ?_) AllReadyH.nil
  simp only [List.getElem_toArray, List.getElem_cons_succ, List.getElem_cons_zero]
  go_simp
  refine hK.out _ _ c3'' (fun hS => ?_)
  clear hK K
  refine wpAnyH_done (by kernel_rfl) ?_ _
  go_wp2
  go_ret
  rw [unhide HW]
  exact ⟨rfl, unhide HF⟩
 ·have hne : (refP S i t != 0) = true := by simpa using he
  have HW := hide (show writeP S i t = S from by unfold writeP; rw [if_neg he])
  have HK := hide K
  clear K he ht
  generalize refP S i t = er at *
  go_enter Tryz.func101, Tryz.ntmps101
  go_wp2_with (go_at_call 152; refine (unhide HF0).mono ?_; rintro e w' ⟨rfl, rfl⟩)
  go_ret
  rw [unhide HW]
  exact ⟨rfl, (unhide HK).same⟩
end Go.Proofs.YtiellebdliifdaaGreatDoor
namespace Go.Proofs.YtiellebdliifdaaGreatDoor
open Go.RowKit Go.Maps Go.Sort Go.Shelf
set_option maxRecDepth 100000 in
set_option maxHeartbeats 1000000 in
theorem turned_any (b : ByteArray) (hb : b.size = 32) (i : Nat) (hi : i < 1000000) (w : World) : Calls Tryz.prog 169 #[.string b, .int .i64 (i : Int)] w fun e w' => e = .returned (.string (turnB b i)) ∧ Below w.heap.size w w' := by
 have HB1 := hide (fun W => byteOf_any i hi W)
 have HB2 := hide (fun W => bitOf_any i hi W)
 have hq : i % 256 / 8 < 32 := by omega
 have hr : i % 8 < 8 := Nat.mod_lt _ (by decide)
 obtain ⟨cap, W, hrun, hBs, hbel⟩ := Bsl.of_string w b (by omega)
 have hA := hBs.2.2.2.2.1
 have hl : (nums b).length = 32 := by rw [nums_len, hb]
 have c1 := hA.get0 (i % 256 / 8) (by omega)
 have f1 := hA.free0 (i % 256 / 8) (by omega)
 rw [byN_eq] at c1
 rw [hb] at hrun
 have hxo := u8_xor_nat (byN b (i % 256 / 8)) (2 ^ (i % 8)) (byN_lt _ _) (two_lt _ hr)
 have hA2 := hA.set0 (i % 256 / 8) (by omega) ((byN b (i % 256 / 8) ^^^ 2 ^ (i % 8) : Nat) : Int)
 have HT := hide (show turnB b i = strOfNums (turnL b i) from rfl)
 have hTl : (turnL b i).length = 32 := by unfold turnL; rw [List.length_set, hl]
 rw [show (nums b).set (i % 256 / 8) ((byN b (i % 256 / 8) ^^^ 2 ^ (i % 8) : Nat) : Int) = turnL b i from rfl] at hA2
 have hcv := run_convert_bytes_arg (P := Tryz.prog) (W.setCell ⟨w.heap.size, i % 256 / 8, none⟩ (.int .u8 ((byN b (i % 256 / 8) ^^^ 2 ^ (i % 8) : Nat) : Int))).drew 101 5 Tryz.underlying101 Tryz.underlying5 w.heap.size 0 32 cap (turnL b i) hTl (fun j hj => hA2.get j (by omega)) 9 Tryz.underlying9
 have HBL := hide (show Below w.heap.size w (W.setCell ⟨w.heap.size, i % 256 / 8, none⟩ (.int .u8 ((byN b (i % 256 / 8) ^^^ 2 ^ (i % 8) : Nat) : Int))) from hbel.setCell (Nat.le_refl _) _)
 have hcap : 32 ≤ cap := by have := hBs.2.2.1; omega
 clear hA2 hA hBs hbel hb
 generalize turnL b i = TL at *
 generalize turnB b i = TB at *
 generalize byN b (i % 256 / 8) ^^^ 2 ^ (i % 8) = xv at *
 generalize byN b (i % 256 / 8) = x at *
 generalize 2 ^ (i % 8) = pw at *
 clear hr
 generalize i % 256 / 8 = q at *
 obtain ⟨g, hgg⟩ : ∃ g, w.heap.size = g := ⟨_, rfl⟩
 rw [hgg] at hrun c1 f1 hcv HBL
 have i0 : (0 : Int) ≤ (q : Int) := by omega
 have i1 : (q : Int) < 32 := by omega
 rw [hgg]
 clear hgg hl hTl
 go_enter Tryz.func169, Tryz.ntmps169
 go_wp2
 go_region_with (first | (go_at_call 167; refine (unhide HB1 _).mono ?_; rintro e w' ⟨rfl, hw'⟩; subst w') | (go_at_call 168; refine (unhide HB2 _).mono ?_; rintro e w' ⟨rfl, hw'⟩; subst w'))
 all_goals
  go_wp2
  go_ret
  rw [unhide HT]
  exact ⟨rfl, (unhide HBL).drew⟩
def rdE (S : PS) (i k : Nat) : Int := if (readP S (i : Int)).2.1 = 0 then (if bdOk (readP S (i : Int)).1 k then 0 else 73) else (readP S (i : Int)).2.1
def rdT (S : PS) (i k : Nat) : ByteArray := if (readP S (i : Int)).2.1 = 0 then bdT (readP S (i : Int)).1 k else ⟨#[]⟩
set_option maxRecDepth 100000 in
set_option maxHeartbeats 2000000 in
theorem mread_any {w0 w : World} {b jb pb mb : Nat} {S : PS} {X : Nat → Prop} {a n : Nat} (K : PK w0 w b jb pb S X) (hM : MB w mb pb a n) (hX : X mb) (hg : ETy w0) (ha : a ≤ 1000000) (k : Nat) (hk : k ≤ 1000000) (hT : (readT S.s ((a + k : Nat) : Int)).size ≤ maxLen) (hs : (readP S ((a + k : Nat) : Int)).1.size ≤ 9223372036854775807) :
  Calls Tryz.prog 119 #[.pointer (some ⟨mb, 0, none⟩), .int .i64 (k : Int)] w fun e w' => e = .returned (.tuple #[.string (rdT S (a + k) k), .int .i64 (rdE S (a + k) k)]) ∧ PK w0 w' b jb pb (readP S ((a + k : Nat) : Int)).2.2 X ∧ Only (fun x => ¬ X x) w w' := by
 have c0 := hM.c0
 have c1 := hM.c1
 have Kd : PK w0 w.drew b jb pb S X := K.below ((Below.refl _ w).drew)
 have HRD := hide (pread_any Kd ((a + k : Nat) : Int) hT)
 have HMB := hide (show ∀ W, Only (fun x => ¬ X x) w.drew W → MB W mb pb a n from fun W ho => MB.only (MB.below hM ((Below.refl _ w).drew)) ho (fun q => q hX))
 have HG := hide hg
 have HE := hide (show rdE S (a + k) k = (if (readP S ((a + k : Nat) : Int)).2.1 = 0 then (if bdOk (readP S ((a + k : Nat) : Int)).1 k then 0 else 73) else (readP S ((a + k : Nat) : Int)).2.1) from rfl)
 have HTT := hide (show rdT S (a + k) k = (if (readP S ((a + k : Nat) : Int)).2.1 = 0 then bdT (readP S ((a + k : Nat) : Int)).1 k else ⟨#[]⟩) from rfl)
 have e1 : (a : Int) + (k : Int) = ((a + k : Nat) : Int) := by omega
 have hq : a + k ≤ 2000000 := by omega
 have hwq : IntKind.i64.wrap ((a + k : Nat) : Int) = ((a + k : Nat) : Int) := wrapI_eq _ (by omega) (by omega)
 generalize rdE S (a + k) k = re at *
 generalize rdT S (a + k) k = rt at *
 generalize (readP S ((a + k : Nat) : Int)).1 = t at *
 generalize (readP S ((a + k : Nat) : Int)).2.1 = er at *
 generalize (readP S ((a + k : Nat) : Int)).2.2 = S2 at *
 generalize a + k = ak at *
 clear hM K Kd hT hg
 go_enter Tryz.func119, Tryz.ntmps119
 go_wp2
 refine wp_region_held_drew (S := fun w' => w'.cell? ⟨mb, 0, none⟩ = some (.pointer (some ⟨pb, 0, none⟩)) ∧ w'.cell? ⟨mb, 1, none⟩ = some (.int .i64 (a : Int))) (by kernel_rfl) ⟨c0, c1⟩ ?_
 intro hS
 refine wpAnyH_takeD 0 (some 11) (.pointer (some ⟨mb, 0, none⟩)) rfl rfl (by kernel_rfl) (by kernel_rfl) (by kernel_rfl) (fun _ _ _ h => h) (Or.inl ⟨by rfl, fun w hSw => by obtain ⟨q1, q2⟩ := hSw; go_simp⟩) hS ?_
 simp only [Act.put, List.setIfInBounds_toArray, List.set_cons_zero, List.set_cons_succ]
 refine wpAnyH_takeD 1 (some 12) (.pointer (some ⟨mb, 0, none⟩)) rfl rfl (by kernel_rfl) (by kernel_rfl) (by kernel_rfl) (fun _ _ _ h => h) (Or.inl ⟨by rfl, fun w hSw => by obtain ⟨q1, q2⟩ := hSw; go_simp⟩) hS ?_
 simp only [Act.put, List.setIfInBounds_toArray, List.set_cons_zero, List.set_cons_succ]
 refine wpAnyH_takeD 2 (some 13) (.pointer (some ⟨mb, 0, none⟩)) rfl rfl (by kernel_rfl) (by kernel_rfl) (by kernel_rfl) (fun _ _ _ h => h) (Or.inl ⟨by rfl, fun w hSw => by obtain ⟨q1, q2⟩ := hSw; go_simp⟩) hS ?_
 simp only [Act.put, List.setIfInBounds_toArray, List.set_cons_zero, List.set_cons_succ]
 refine wpAnyH_takeD 3 (some 14) (.pointer (some ⟨pb, 0, none⟩)) rfl rfl (by kernel_rfl) (by kernel_rfl) (by kernel_rfl) (fun _ _ _ h => h) (Or.inl ⟨by rfl, fun w hSw => by obtain ⟨q1, q2⟩ := hSw; go_simp⟩) hS ?_
 simp only [Act.put, List.setIfInBounds_toArray, List.set_cons_zero, List.set_cons_succ]
 refine wpAnyH_takeD 4 (some 15) (.pointer (some ⟨mb, 0, none⟩)) rfl rfl (by kernel_rfl) (by kernel_rfl) (by kernel_rfl) (fun _ _ _ h => h) (Or.inl ⟨by rfl, fun w hSw => by obtain ⟨q1, q2⟩ := hSw; go_simp⟩) hS ?_
 simp only [Act.put, List.setIfInBounds_toArray, List.set_cons_zero, List.set_cons_succ]
 refine wpAnyH_takeD 5 (some 16) (.pointer (some ⟨mb, 0, none⟩)) rfl rfl (by kernel_rfl) (by kernel_rfl) (by kernel_rfl) (fun _ _ _ h => h) (Or.inl ⟨by rfl, fun w hSw => by obtain ⟨q1, q2⟩ := hSw; go_simp⟩) hS ?_
 simp only [Act.put, List.setIfInBounds_toArray, List.set_cons_zero, List.set_cons_succ]
 refine wpAnyH_takeD 6 (some 17) (.pointer (some ⟨mb, 1, none⟩)) rfl rfl (by kernel_rfl) (by kernel_rfl) (by kernel_rfl) (fun _ _ _ h => h) (Or.inl ⟨by rfl, fun w hSw => by obtain ⟨q1, q2⟩ := hSw; go_simp⟩) hS ?_
 simp only [Act.put, List.setIfInBounds_toArray, List.set_cons_zero, List.set_cons_succ]
 refine wpAnyH_takeD 7 (some 18) (.int .i64 (a : Int)) rfl rfl (by kernel_rfl) (by kernel_rfl) (by kernel_rfl) (fun _ _ _ h => h) (Or.inl ⟨by rfl, fun w hSw => by obtain ⟨q1, q2⟩ := hSw; go_simp⟩) hS ?_
 simp only [Act.put, List.setIfInBounds_toArray, List.set_cons_zero, List.set_cons_succ]
 refine wpAnyH_takeD 8 (some 19) (.int .i64 (k : Int)) rfl rfl (by kernel_rfl) (by kernel_rfl) (by kernel_rfl) (fun _ _ _ h => h) (Or.inl ⟨by rfl, fun w hSw => by obtain ⟨q1, q2⟩ := hSw; go_simp⟩) hS ?_
 simp only [Act.put, List.setIfInBounds_toArray, List.set_cons_zero, List.set_cons_succ]
 refine wpAnyH_takeD 9 (some 20) (.int .i64 (ak : Int)) rfl rfl (by kernel_rfl) (by kernel_rfl) (by kernel_rfl) (fun _ _ _ h => h) (Or.inl ⟨by rfl, fun w hSw => by obtain ⟨q1, q2⟩ := hSw; go_simp⟩) hS ?_
 simp only [Act.put, List.setIfInBounds_toArray, List.set_cons_zero, List.set_cons_succ]
 refine wpAnyH_ready (rs := [10]) (by kernel_rfl) (by simp) ?_
 refine AllReadyH.cons rfl (fun K hK => ?_) AllReadyH.nil
 simp only [List.getElem_toArray, List.getElem_cons_succ, List.getElem_cons_zero]
 go_simp
 refine (unhide HRD).mono ?_
 rintro e x1 ⟨rfl, K1, hO1⟩
 have hM1 := unhide HMB x1 hO1
 have c0' := hM1.c0
 have c1' := hM1.c1
 have HK1 := hide (And.intro K1 (show Only (fun x => ¬ X x) w x1 from (Only.of_below (P := fun x => ¬ X x) ((Below.refl _ w).drew)).trans hO1 (fun _ _ q => q)))
 clear K1 hO1 hM1 HRD HMB
 refine hK.out _ _ ⟨c0', c1'⟩ (fun hS => ?_)
 clear hK K
 refine wpAnyH_takeD 11 (some 10) (.tuple #[.string t, .int .i64 er]) rfl rfl (by kernel_rfl) (by kernel_rfl) (by kernel_rfl) (fun _ _ _ h => h) (Or.inl ⟨by rfl, fun w hSw => by obtain ⟨q1, q2⟩ := hSw; go_simp⟩) hS ?_
 simp only [Act.put, List.setIfInBounds_toArray, List.set_cons_zero, List.set_cons_succ]
 refine wpAnyH_takeD 12 (some 22) (.string t) rfl rfl (by kernel_rfl) (by kernel_rfl) (by kernel_rfl) (fun _ _ _ h => h) (Or.inl ⟨by rfl, fun w hSw => by obtain ⟨q1, q2⟩ := hSw; go_simp⟩) hS ?_
 simp only [Act.put, List.setIfInBounds_toArray, List.set_cons_zero, List.set_cons_succ]
 refine wpAnyH_takeD 13 (some 23) (.int .i64 er) rfl rfl (by kernel_rfl) (by kernel_rfl) (by kernel_rfl) (fun _ _ _ h => h) (Or.inl ⟨by rfl, fun w hSw => by obtain ⟨q1, q2⟩ := hSw; go_simp⟩) hS ?_
 simp only [Act.put, List.setIfInBounds_toArray, List.set_cons_zero, List.set_cons_succ]
 refine wpAnyH_takeD 14 (some 6) (.string t) rfl rfl (by kernel_rfl) (by kernel_rfl) (by kernel_rfl) (fun _ _ _ h => h) (Or.inl ⟨by rfl, fun w hSw => by obtain ⟨q1, q2⟩ := hSw; go_simp⟩) hS ?_
 simp only [Act.put, List.setIfInBounds_toArray, List.set_cons_zero, List.set_cons_succ]
 refine wpAnyH_takeD 15 (some 7) (.int .i64 er) rfl rfl (by kernel_rfl) (by kernel_rfl) (by kernel_rfl) (fun _ _ _ h => h) (Or.inl ⟨by rfl, fun w hSw => by obtain ⟨q1, q2⟩ := hSw; go_simp⟩) hS ?_
 simp only [Act.put, List.setIfInBounds_toArray, List.set_cons_zero, List.set_cons_succ]
 refine wpAnyH_done (by kernel_rfl) ?_ _
 clear hS c0 c1 c0' c1'
 by_cases he : er = 0
 ·subst he
  have hG1 : ETy x1 := (unhide HG).below (unhide HK1).1.bel (unhide HG).lt
  have HBD := hide (bodyOf_any t hs k x1 hG1)
  clear hG1 hs
  have hE := unhide HE
  have hT := unhide HTT
  rw [if_pos rfl] at hE hT
  by_cases hd : bdOk t k
  ·rw [if_pos hd] at hE
   rw [decide_eq_true hd] at HBD
   have HRR := hide (And.intro hE hT)
   clear hE hT HE HTT hd
   go_wp2_with (go_at_call 166; refine (unhide HBD).mono ?_; rintro e x2 ⟨rfl, hb2⟩)
   go_ret2
   rw [(unhide HRR).1, (unhide HRR).2]
   exact ⟨rfl, (unhide HK1).1.below hb2, (unhide HK1).2.trans (Only.of_below (P := fun x => ¬ X x) hb2) (fun _ _ q => q)⟩
  ·rw [if_neg hd] at hE
   have hbt : bdT t k = ⟨#[]⟩ := by rw [bdT, if_neg hd]
   rw [hbt] at hT HBD
   rw [decide_eq_false hd] at HBD
   have HRR := hide (And.intro hE hT)
   clear hE hT HE HTT hd hbt
   go_wp2_with (go_at_call 166; refine (unhide HBD).mono ?_; rintro e x2 ⟨rfl, hb2⟩)
   go_ret2
   rw [(unhide HRR).1, (unhide HRR).2]
   exact ⟨rfl, (unhide HK1).1.below hb2, (unhide HK1).2.trans (Only.of_below (P := fun x => ¬ X x) hb2) (fun _ _ q => q)⟩
 ·have hE := unhide HE
  have hT := unhide HTT
  rw [if_neg he] at hE hT
  have HRR := hide (And.intro hE hT)
  have hne : (er != 0) = true := by simpa using he
  clear hE hT HE HTT he hs
  go_wp2
  go_ret2
  rw [(unhide HRR).1, (unhide HRR).2]
  exact ⟨rfl, (unhide HK1).1, (unhide HK1).2⟩
set_option maxRecDepth 100000 in
set_option maxHeartbeats 2000000 in
theorem mturn_any {w0 w : World} {b jb pb mb : Nat} {S : PS} {X : Nat → Prop} {a n : Nat} (K : PK w0 w b jb pb S X) (hM : MB w mb pb a n) (hX : X mb) (ha : a ≤ 1000000) (bd : ByteArray) (hbd : bd.size = 32) (p : Nat) (hp : p < 1000000) (hp2 : p / 256 < 1024) :
  Calls Tryz.prog 126 #[.pointer (some ⟨mb, 0, none⟩), .string bd, .int .i64 (p : Int)] w fun e w' => e = .returned (.int .i64 (refP S ((a + p / 256 : Nat) : Int) (pgT (p / 256) (turnB bd p)))) ∧ PK w0 w' b jb pb (writeP S ((a + p / 256 : Nat) : Int) (pgT (p / 256) (turnB bd p))) X ∧ Only (fun x => ¬ X x) w w' := by
 have c0 := hM.c0
 have c1 := hM.c1
 have HPO := hide (fun W => pageOf_any p (by omega) W)
 have HTU := hide (fun W => turned_any bd hbd p (by omega) W)
 have HSE := hide (fun W => sectorOf_any (p / 256) (turnB bd p) W)
 have hts : (pgT (p / 256) (turnB bd p)).size = 256 := pgT_size _ hp2 _ (by rw [turnB_size]; exact hbd)
 have HWR := hide (show ∀ W, Below w.heap.size w W → Calls Tryz.prog 101 #[.pointer (some ⟨pb, 0, none⟩), .int .i64 ((a + p / 256 : Nat) : Int), .string (pgT (p / 256) (turnB bd p))] W fun e w' => e = .returned (.int .i64 (refP S ((a + p / 256 : Nat) : Int) (pgT (p / 256) (turnB bd p)))) ∧ PK w0 w' b jb pb (writeP S ((a + p / 256 : Nat) : Int) (pgT (p / 256) (turnB bd p))) X ∧ Only (fun x => ¬ X x) W w' from fun W hb => pwrite_any (K.below hb) _ _ (by rw [hts]; decide))
 have HMB := hide (show ∀ W, Below w.heap.size w W → MB W mb pb a n from fun W hb => hM.below hb)
 have HMO := hide (show ∀ W W', Below w.heap.size w W → Only (fun x => ¬ X x) W W' → MB W' mb pb a n from fun W W' hb ho => (hM.below hb).only ho (fun q => q hX))
 have e1 : (a : Int) + ((p / 256 : Nat) : Int) = ((a + p / 256 : Nat) : Int) := by omega
 have hq : a + p / 256 ≤ 2000000 := by omega
 have hwq : IntKind.i64.wrap ((a + p / 256 : Nat) : Int) = ((a + p / 256 : Nat) : Int) := wrapI_eq _ (by omega) (by omega)
 clear K hM hts hbd
 generalize refP S ((a + p / 256 : Nat) : Int) (pgT (p / 256) (turnB bd p)) = er at *
 generalize writeP S ((a + p / 256 : Nat) : Int) (pgT (p / 256) (turnB bd p)) = S2 at *
 generalize a + p / 256 = ak at *
 generalize pgT (p / 256) (turnB bd p) = tt at *
 generalize turnB bd p = tb at *
 generalize p / 256 = kk at *
 go_enter Tryz.func126, Tryz.ntmps126
 go_wp2_with (go_at_call 124; refine (unhide HPO _).mono ?_; rintro e w' ⟨rfl, hw'⟩; subst w')
 refine wp_region_held_drew (S := fun w' => w'.cell? ⟨mb, 0, none⟩ = some (.pointer (some ⟨pb, 0, none⟩)) ∧ w'.cell? ⟨mb, 1, none⟩ = some (.int .i64 (a : Int))) (by kernel_rfl) ⟨c0, c1⟩ ?_
 intro hS
 refine wpAnyH_takeD 0 (some 10) (.pointer (some ⟨mb, 0, none⟩)) rfl rfl (by kernel_rfl) (by kernel_rfl) (by kernel_rfl) (fun _ _ _ h => h) (Or.inl ⟨by rfl, fun w hSw => by obtain ⟨q1, q2⟩ := hSw; go_simp⟩) hS ?_
 simp only [Act.put, List.setIfInBounds_toArray, List.set_cons_zero, List.set_cons_succ]
 refine wpAnyH_takeD 1 (some 11) (.pointer (some ⟨mb, 0, none⟩)) rfl rfl (by kernel_rfl) (by kernel_rfl) (by kernel_rfl) (fun _ _ _ h => h) (Or.inl ⟨by rfl, fun w hSw => by obtain ⟨q1, q2⟩ := hSw; go_simp⟩) hS ?_
 simp only [Act.put, List.setIfInBounds_toArray, List.set_cons_zero, List.set_cons_succ]
 refine wpAnyH_takeD 2 (some 12) (.pointer (some ⟨mb, 0, none⟩)) rfl rfl (by kernel_rfl) (by kernel_rfl) (by kernel_rfl) (fun _ _ _ h => h) (Or.inl ⟨by rfl, fun w hSw => by obtain ⟨q1, q2⟩ := hSw; go_simp⟩) hS ?_
 simp only [Act.put, List.setIfInBounds_toArray, List.set_cons_zero, List.set_cons_succ]
 refine wpAnyH_takeD 3 (some 13) (.pointer (some ⟨pb, 0, none⟩)) rfl rfl (by kernel_rfl) (by kernel_rfl) (by kernel_rfl) (fun _ _ _ h => h) (Or.inl ⟨by rfl, fun w hSw => by obtain ⟨q1, q2⟩ := hSw; go_simp⟩) hS ?_
 simp only [Act.put, List.setIfInBounds_toArray, List.set_cons_zero, List.set_cons_succ]
 refine wpAnyH_takeD 4 (some 14) (.pointer (some ⟨mb, 0, none⟩)) rfl rfl (by kernel_rfl) (by kernel_rfl) (by kernel_rfl) (fun _ _ _ h => h) (Or.inl ⟨by rfl, fun w hSw => by obtain ⟨q1, q2⟩ := hSw; go_simp⟩) hS ?_
 simp only [Act.put, List.setIfInBounds_toArray, List.set_cons_zero, List.set_cons_succ]
 refine wpAnyH_takeD 5 (some 15) (.pointer (some ⟨mb, 0, none⟩)) rfl rfl (by kernel_rfl) (by kernel_rfl) (by kernel_rfl) (fun _ _ _ h => h) (Or.inl ⟨by rfl, fun w hSw => by obtain ⟨q1, q2⟩ := hSw; go_simp⟩) hS ?_
 simp only [Act.put, List.setIfInBounds_toArray, List.set_cons_zero, List.set_cons_succ]
 refine wpAnyH_takeD 6 (some 16) (.pointer (some ⟨mb, 1, none⟩)) rfl rfl (by kernel_rfl) (by kernel_rfl) (by kernel_rfl) (fun _ _ _ h => h) (Or.inl ⟨by rfl, fun w hSw => by obtain ⟨q1, q2⟩ := hSw; go_simp⟩) hS ?_
 simp only [Act.put, List.setIfInBounds_toArray, List.set_cons_zero, List.set_cons_succ]
 refine wpAnyH_takeD 7 (some 17) (.int .i64 (a : Int)) rfl rfl (by kernel_rfl) (by kernel_rfl) (by kernel_rfl) (fun _ _ _ h => h) (Or.inl ⟨by rfl, fun w hSw => by obtain ⟨q1, q2⟩ := hSw; go_simp⟩) hS ?_
 simp only [Act.put, List.setIfInBounds_toArray, List.set_cons_zero, List.set_cons_succ]
 refine wpAnyH_takeD 8 (some 18) (.int .i64 (kk : Int)) rfl rfl (by kernel_rfl) (by kernel_rfl) (by kernel_rfl) (fun _ _ _ h => h) (Or.inl ⟨by rfl, fun w hSw => by obtain ⟨q1, q2⟩ := hSw; go_simp⟩) hS ?_
 simp only [Act.put, List.setIfInBounds_toArray, List.set_cons_zero, List.set_cons_succ]
 refine wpAnyH_takeD 9 (some 19) (.int .i64 (ak : Int)) rfl rfl (by kernel_rfl) (by kernel_rfl) (by kernel_rfl) (fun _ _ _ h => h) (Or.inl ⟨by rfl, fun w hSw => by obtain ⟨q1, q2⟩ := hSw; go_simp⟩) hS ?_
 simp only [Act.put, List.setIfInBounds_toArray, List.set_cons_zero, List.set_cons_succ]
 refine wpAnyH_takeD 10 (some 20) (.int .i64 (kk : Int)) rfl rfl (by kernel_rfl) (by kernel_rfl) (by kernel_rfl) (fun _ _ _ h => h) (Or.inl ⟨by rfl, fun w hSw => by obtain ⟨q1, q2⟩ := hSw; go_simp⟩) hS ?_
 simp only [Act.put, List.setIfInBounds_toArray, List.set_cons_zero, List.set_cons_succ]
 refine wpAnyH_takeD 11 (some 21) (.string bd) rfl rfl (by kernel_rfl) (by kernel_rfl) (by kernel_rfl) (fun _ _ _ h => h) (Or.inl ⟨by rfl, fun w hSw => by obtain ⟨q1, q2⟩ := hSw; go_simp⟩) hS ?_
 simp only [Act.put, List.setIfInBounds_toArray, List.set_cons_zero, List.set_cons_succ]
 refine wpAnyH_takeD 12 (some 22) (.int .i64 (p : Int)) rfl rfl (by kernel_rfl) (by kernel_rfl) (by kernel_rfl) (fun _ _ _ h => h) (Or.inl ⟨by rfl, fun w hSw => by obtain ⟨q1, q2⟩ := hSw; go_simp⟩) hS ?_
 simp only [Act.put, List.setIfInBounds_toArray, List.set_cons_zero, List.set_cons_succ]
 refine wpAnyH_ready (rs := [13]) (by kernel_rfl) (by simp) ?_
 refine AllReadyH.cons rfl (fun K hK => ?_) AllReadyH.nil
 simp only [List.getElem_toArray, List.getElem_cons_succ, List.getElem_cons_zero]
 go_simp
 refine (unhide HTU _).mono ?_
 rintro e x1 ⟨rfl, hb1⟩
 have hB1 : Below w.heap.size w x1 := ((Below.refl _ w).drew).trans hb1
 have hM1 := unhide HMB x1 hB1
 have c0' := hM1.c0
 have c1' := hM1.c1
 have HB1 := hide hB1
 clear hB1 hb1 hM1 HTU
 refine hK.out _ _ ⟨c0', c1'⟩ (fun hS => ?_)
 clear hK K
 refine wpAnyH_ready (rs := [14]) (by kernel_rfl) (by simp) ?_
 refine AllReadyH.cons rfl (fun K hK => ?_) AllReadyH.nil
 simp only [List.getElem_toArray, List.getElem_cons_succ, List.getElem_cons_zero]
 go_simp
 refine (unhide HSE _).mono ?_
 rintro e x2 ⟨rfl, hb2⟩
 have hB2 : Below w.heap.size w x2 := (unhide HB1).trans (hb2.mono (unhide HB1).size)
 have hM2 := unhide HMB x2 hB2
 have c02 := hM2.c0
 have c12 := hM2.c1
 have HB2 := hide hB2
 clear hB2 hb2 hM2 HSE HB1
 refine hK.out _ _ ⟨c02, c12⟩ (fun hS => ?_)
 clear hK K
 refine wpAnyH_ready (rs := [15]) (by kernel_rfl) (by simp) ?_
 refine AllReadyH.cons rfl (fun K hK => ?_) AllReadyH.nil
 simp only [List.getElem_toArray, List.getElem_cons_succ, List.getElem_cons_zero]
 go_simp
 refine (unhide HWR x2 (unhide HB2)).mono ?_
 rintro e x3 ⟨rfl, K3, hO3⟩
 have hM3 := unhide HMO x2 x3 (unhide HB2) hO3
 have c03 := hM3.c0
 have c13 := hM3.c1
 have HK3 := hide (And.intro K3 ((Only.of_below (P := fun x => ¬ X x) (unhide HB2)).trans hO3 (fun _ _ q => q)))
 clear K3 hO3 hM3 HWR
 refine hK.out _ _ ⟨c03, c13⟩ (fun hS => ?_)
 clear hK K
 refine wpAnyH_takeD 16 (some 6) (.int .i64 er) rfl rfl (by kernel_rfl) (by kernel_rfl) (by kernel_rfl) (fun _ _ _ h => h) (Or.inl ⟨by rfl, fun w hSw => by obtain ⟨q1, q2⟩ := hSw; go_simp⟩) hS ?_
 simp only [Act.put, List.setIfInBounds_toArray, List.set_cons_zero, List.set_cons_succ]
 refine wpAnyH_done (by kernel_rfl) ?_ _
 go_wp2
 go_ret
 exact ⟨rfl, (unhide HK3).1, (unhide HK3).2⟩
def chgS (S : PS) : PS := if S.op then S else if S.lost then S else endS S
set_option maxRecDepth 100000 in
set_option maxHeartbeats 1000000 in
theorem changeable_any {w0 w : World} {b jb pb mb : Nat} {S : PS} {X : Nat → Prop} {a n : Nat} (K : PK w0 w b jb pb S X) (hM : MB w mb pb a n) (hX : X mb) :
  Calls Tryz.prog 123 #[.pointer (some ⟨mb, 0, none⟩)] w fun e w' => e = .returned (.bool S.op) ∧ PK w0 w' b jb pb (chgS S) X ∧ Only (fun x => ¬ X x) w w' := by
 have c0 := hM.c0
 have HBG := hide (pbegin_any K)
 have HMB := hide (show ∀ W, Only (fun x => ¬ X x) w W → MB W mb pb a n from fun W ho => hM.only ho (fun q => q hX))
 clear K hM
 cases ho : S.op with
 | true =>
  rw [show beginE S = 60 from by simp [beginE, ho], show beginS S = S from by simp [beginS, ho]] at HBG
  have HC := hide (show chgS S = S from by simp [chgS, ho])
  clear ho
  go_enter Tryz.func123, Tryz.ntmps123
  go_wp2_with (go_at_call 8; refine (unhide HBG).mono ?_; rintro e x1 ⟨rfl, K1, hO1⟩)
  go_ret
  rw [unhide HC]
  exact ⟨rfl, K1, hO1⟩
 | false =>
  cases hl : S.lost with
  | true =>
   rw [show beginE S = 2 from by simp [beginE, ho, hl], show beginS S = S from by simp [beginS, ho, hl]] at HBG
   have HC := hide (show chgS S = S from by simp [chgS, ho, hl])
   clear ho hl
   go_enter Tryz.func123, Tryz.ntmps123
   go_wp2_with (go_at_call 8; refine (unhide HBG).mono ?_; rintro e x1 ⟨rfl, K1, hO1⟩)
   go_ret
   rw [unhide HC]
   exact ⟨rfl, K1, hO1⟩
  | false =>
   rw [show beginE S = 0 from by simp [beginE, ho, hl], show beginS S = { S with op := true } from by simp [beginS, ho, hl]] at HBG
   have HC := hide (show chgS S = endS { S with op := true } from by simp [chgS, ho, hl, endS])
   have HAE := hide (show abortE { S with op := true } = 0 ∧ abortS { S with op := true } = endS { S with op := true } from by simp [abortE, abortS])
   clear ho hl
   go_enter Tryz.func123, Tryz.ntmps123
   go_wp2_with fail
   refine (unhide HBG).mono ?_
   rintro e x1 ⟨rfl, K1, hO1⟩
   have c0' := (unhide HMB x1 hO1).c0
   have HAB := hide (pabort_any K1)
   rw [(unhide HAE).1, (unhide HAE).2] at HAB
   have HO1 := hide hO1
   clear K1 hO1 HBG c0
   go_wp2_with fail
   refine (unhide HAB).mono ?_
   rintro e x2 ⟨rfl, K2, hO2⟩
   have HK2 := hide (And.intro K2 ((unhide HO1).trans hO2 (fun _ _ q => q)))
   clear K2 hO2 HAB
   go_wp2
   go_ret
   rw [unhide HC]
   exact ⟨rfl, (unhide HK2).1, (unhide HK2).2⟩
end Go.Proofs.YtiellebdliifdaaGreatDoor
namespace Go.Proofs.YtiellebdliifdaaGreatDoor
open Go.RowKit Go.Maps Go.Sort Go.Shelf
theorem sortsA (m : Nat) : AnyZI.SortsIn Tryz.prog Tryz.sortedL_ren Fence.wide m :=
  ⟨fun blk off cap ss W hH hblk hsz => callsIn_wide.2 (Tryz.slices_Sort_int blk off cap ss W hH hblk hsz),
   fun p cap W => callsIn_wide.2 (Tryz.slices_Sort_int_none p cap W)⟩
set_option maxRecDepth 100000 in
set_option maxHeartbeats 1000000 in
theorem dirty_any (w : World) (bm pb : Nat) (l : Tx) (hm : Mp w bm l) (hl : l.length ≤ 1000000) (c3 : w.cell? ⟨pb, 3, none⟩ = some (.map (some bm))) :
  Calls Tryz.prog 79 #[.pointer (some ⟨pb, 0, none⟩)] w fun e w' => ∃ v, e = .returned v ∧ w'.ownsRow w.heap.size 3 1 v (l.map (·.1)).length ((l.map (·.1)).map encZ) ∧ Below w.heap.size w w' := by
 refine (callsIn_wide (n := 6)).1 ?_
 have hbl := hm.lt
 have hsz : Maps.size (txD l) = l.length := txD_size l
 have hseq : SeqGives Fence.wide 2 Tryz.prog 171 #[.pointer (some ⟨w.heap.size, 0, none⟩)] encZ (fun ss => ss.Perm (intKeys (txD l))) (Maps.size (txD l)) (w.alloc (.cells #[.map (some bm)] 62)) :=
  AnyZI.keys_gives (ρ := Tryz.keysL_ren) { Tryz.keysL with } Fence.wide _ trivial rfl (by omega) w.heap.size bm l.length (txD l) _ (by simp) (by simp) (hm.1.alloc _)
 have cK : ∀ mb W, CallsIn Fence.wide 5 Tryz.prog 128 #[.map mb] W fun e w' => e = .returned (.func (.func 171) #[] #[.pointer (some ⟨W.heap.size, 0, none⟩)]) ∧ w' = W.alloc (.cells #[.map mb] 62) := fun mb W => AnyZI.keys_in Tryz.keysL Fence.wide 5 trivial rfl mb W
 have cS := AnyZI.sorted_in Tryz.sortedL Fence.wide 5 trivial trivial trivial trivial rfl (by omega) (sortsA _) (enters_of Tryz.func133 (by kernel_rfl) rfl) 171 #[.pointer (some ⟨w.heap.size, 0, none⟩)] trivial (enters_of Tryz.func171 (by kernel_rfl) rfl) _ _ (by rw [hsz]; unfold maxLen; omega) (by rw [hsz]; omega) _ hseq
 change CallsIn _ _ Tryz.prog 127 _ _ _ at cS
 have hfK : Fence.wide.fn 128 := trivial
 have hfS : Fence.wide.fn 127 := trivial
 have HS := hide hm.2
 clear hm hsz hseq hl
 refine callsIn_of_wp Tryz.func79 rfl trivial ?_ rfl
 simp only [Tryz.ntmps79, List.size_toArray, List.length_cons, List.length_nil, Nat.reduceAdd, Nat.reduceSub, Array.replicate_succ, Array.replicate_zero, List.push_toArray, List.append_toArray, List.nil_append, List.cons_append]
 gi_wp2_with (first
  | (gi_at_call 128; refine (cK _ _).mono ?_; rintro e w' ⟨rfl, rfl⟩)
  | (gi_at_call 127; refine cS.mono ?_; rintro e w' ⟨v, ss, rfl, hp, hrow, hnil, hb⟩))
 go_ret
 refine ⟨v, rfl, ?_, ((Below.refl _ w).alloc (Nat.le_refl _) _).trans (hb.mono (by simp))⟩
 have h1 := keys_sorted (unhide HS) hp
 have h2 : ss.length = (l.map (·.1)).length := by rw [← h1, List.length_mergeSort]
 rw [h1, h2] at hrow
 exact ownsRow_base_a hrow (by simp)
end Go.Proofs.YtiellebdliifdaaGreatDoor
