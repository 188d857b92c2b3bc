import Derived.Test.YtdpnbemagiekoaaGreatDoorMe22
import Derived.Deep.RegionHeld3
import Derived.WalkMore
set_option maxHeartbeats 2000000
set_option maxRecDepth 100000
namespace Go.Proofs.YtdpnbemagiekoaaGreatDoor
open List renaming getElem_toArray -> lD, getElem_cons_succ -> lE, getElem_cons_zero -> lF
section
open Go.RowKit Go.Maps Go.Sort Go.Shelf
def zAQ (S : PS) (i : Int) : Bool := (txAt S.tx i).isSome || decide ((S.tx.length : Int) < 16)
theorem PKi.room {w0 w : World} {b jb pb : Nat} {S : PS} {X : Nat -> Prop} {bw bv : Nat} {ov : Value} (K : PKi w0 w b jb pb S X bw bv ov) (i : Int) (hi : I64k i) :
  Calls Tryz.prog 131 #[.pointer (some ⟨pb, 0, none⟩), .int .i64 i] w fun e w' => e = .returned (.bool (zAQ S i)) /\ w' = w := by
 have c3 : w.cell? ⟨pb, 3, none⟩ = some (.map (some bw)) := by rw [K.blk.cell]; rfl
 have hlk := (K.tx.look hi).1
 have hln := fun ty => K.tx.len ty
 unfold zAQ
 clear K hi
 generalize (txAt S.tx i).getD ByteArray.empty = t at *
 generalize (S.tx.length : Int) = n at *
 cases hq : (txAt S.tx i).isSome with
 | true =>
  rw [hq] at hlk
  clear hq
  go_enter Tryz.func131, Tryz.ntmps131
  go_wp2
  go_ret
  exact ⟨by simp, rfl⟩
 | false =>
  rw [hq] at hlk
  clear hq
  go_enter Tryz.func131, Tryz.ntmps131
  go_wp2
  go_ret
  exact ⟨by simp, rfl⟩
def refP (S : PS) (i : Int) (t : ByteArray) : Int :=
 if hasB S.s i = false then 41 else if i < 19 then 52 else if t.size ≠ 256 then 42 else if S.op = false then 61 else if S.lost then 2 else if zAQ S i then 0 else 62
theorem zGI {w0 w : World} {b jb pb : Nat} {S : PS} {X : Nat -> Prop} {bw bv : Nat} {ov : Value} (K : PKi w0 w b jb pb S X bw bv ov) (i : Int) (t : ByteArray) :
  Calls Tryz.prog 65 #[.pointer (some ⟨pb, 0, none⟩), .int .i64 i, .string t] w fun e w' => e = .returned (.int .i64 (refP S i t)) /\ w' = w := by
 have HH := uB (K.has i)
 have c2 : w.cell? ⟨pb, 2, none⟩ = some (.bool S.op) := by rw [K.blk.cell]; rfl
 have c9 : w.cell? ⟨pb, 9, none⟩ = some (.bool S.lost) := by rw [K.blk.cell]; rfl
 cases hh : hasB S.s i with
 | false =>
  rw [hh] at HH
  have HR := uB (show refP S i t = 41 from by simp [refP, hh])
  clear K hh
  go_enter Tryz.func65, Tryz.ntmps65
  go_wp2_with (go_at_call 130; refine (uA HH).mono ?_; rintro e w' ⟨rfl, rfl⟩)
  go_ret
  rw [uA HR]
  exact ⟨rfl, rfl⟩
 | true =>
  rw [hh] at HH
  have hi := zFZ K.jk.sane hh
  have HRM := uB (K.room i hi)
  by_cases h19 : i < 19
  ·have hd : decide (i < 19) = true := by simpa using h19
   have HR := uB (show refP S i t = 52 from by simp [refP, hh, h19])
   clear K hh hi HRM h19
   go_enter Tryz.func65, Tryz.ntmps65
   go_wp2_with (go_at_call 130; refine (uA HH).mono ?_; rintro e w' ⟨rfl, rfl⟩)
   go_ret
   rw [uA HR]
   exact ⟨rfl, rfl⟩
  ·have hd : decide (i < 19) = false := by simpa using h19
   by_cases h256 : t.size = 256
   ·have hd2 : ((t.size : Int) != 256) = false := by simp [h256]
    cases ho : S.op with
    | false =>
     rw [ho] at c2
     have HR := uB (show refP S i t = 61 from by simp [refP, hh, h19, h256, ho])
     clear K hh hi HRM h19 h256 ho
     go_enter Tryz.func65, Tryz.ntmps65
     go_wp2_with (go_at_call 130; refine (uA HH).mono ?_; rintro e w' ⟨rfl, rfl⟩)
     go_ret
     rw [uA HR]
     exact ⟨rfl, rfl⟩
    | true =>
     rw [ho] at c2
     cases hl : S.lost with
     | true =>
      rw [hl] at c9
      have HR := uB (show refP S i t = 2 from by simp [refP, hh, h19, h256, ho, hl])
      clear K hh hi HRM h19 h256 ho hl
      go_enter Tryz.func65, Tryz.ntmps65
      go_wp2_with (go_at_call 130; refine (uA HH).mono ?_; rintro e w' ⟨rfl, rfl⟩)
      go_ret
      rw [uA HR]
      exact ⟨rfl, rfl⟩
     | false =>
      rw [hl] at c9
      cases hr : zAQ S i with
      | true =>
       rw [hr] at HRM
       have HR := uB (show refP S i t = 0 from by simp [refP, hh, h19, h256, ho, hl, hr])
       clear K hh hi h19 h256 ho hl hr
       go_enter Tryz.func65, Tryz.ntmps65
       go_wp2_with (first
        | (go_at_call 130; refine (uA HH).mono ?_; rintro e w' ⟨rfl, rfl⟩)
        | (go_at_call 131; refine (uA HRM).mono ?_; rintro e w' ⟨rfl, rfl⟩))
       go_ret
       rw [uA HR]
       exact ⟨rfl, rfl⟩
      | false =>
       rw [hr] at HRM
       have HR := uB (show refP S i t = 62 from by simp [refP, hh, h19, h256, ho, hl, hr])
       clear K hh hi h19 h256 ho hl hr
       go_enter Tryz.func65, Tryz.ntmps65
       go_wp2_with (first
        | (go_at_call 130; refine (uA HH).mono ?_; rintro e w' ⟨rfl, rfl⟩)
        | (go_at_call 131; refine (uA HRM).mono ?_; rintro e w' ⟨rfl, rfl⟩))
       go_ret
       rw [uA HR]
       exact ⟨rfl, rfl⟩
   ·have hd2 : ((t.size : Int) != 256) = true := by simp; omega
    have HR := uB (show refP S i t = 42 from by simp [refP, hh, h19, h256])
    clear K hh hi HRM h19 h256
    go_enter Tryz.func65, Tryz.ntmps65
    go_wp2_with (go_at_call 130; refine (uA HH).mono ?_; rintro e w' ⟨rfl, rfl⟩)
    go_ret
    rw [uA HR]
    exact ⟨rfl, rfl⟩
def putS (S : PS) (i : Int) (t : ByteArray) : PS := { S with tx := zBU i t S.tx }
def zBa (S : PS) (i : Int) (t : ByteArray) : PS := if refP S i t = 0 then putS S i t else S
theorem zOE {S : PS} {i : Int} {t : ByteArray} (h : refP S i t = 0) : hasB S.s i = true /\ 19 <= i /\ t.size = 256 /\ S.op = true /\ S.lost = false /\ zAQ S i = true := by
 unfold refP at h
 split at h
 ·omega
 split at h
 ·omega
 split at h
 ·omega
 split at h
 ·omega
 split at h
 ·omega
 split at h
 ·rename_i h1 h2 h3 h4 h5 h6
  exact ⟨by simpa using h1, by omega, by omega, by simpa using h4, by simpa using h5, h6⟩
 ·omega
theorem PKi.below {w0 w w' : World} {b jb pb : Nat} {S : PS} {X : Nat -> Prop} {bw bv : Nat} {ov : Value} (K : PKi w0 w b jb pb S X bw bv ov) (hb : Below w.heap.size w w') : PKi w0 w' b jb pb S X bw bv ov := by
 have hO : Only (fun _ => False) w w' := Only.of_below hb
 exact ⟨K.jk.below hb, K.blk.only hO (fun q => q), K.tx.only hO (fun q => q), K.hn.only hO (fun q => q) (fun _ _ q => q), K.ne, K.lo1, K.lo2, K.lo3, K.xn, K.hk, K.kp, K.t16, K.tok⟩
theorem zEO {k : Int} {s : ByteArray} {l : Tx} {p : Int × ByteArray} (h : p ∈ zBU k s l) : p = (k, s) ∨ p ∈ l := by
 rcases (zFV k s _ p).1 h with q | q
 ·exact .inl q
 ·exact .inr ((zDU k l p).1 q).1
theorem zDQ {w0 w : World} {b jb pb : Nat} {S : PS} {X : Nat -> Prop} (K : PK w0 w b jb pb S X) (i : Int) (t : ByteArray) (ht : t.size <= 9223372036854775807) :
  Calls Tryz.prog 23 #[.pointer (some ⟨pb, 0, none⟩), .int .i64 i, .string t] w fun e w' => e = .returned (.int .i64 (refP S i t)) /\ PK w0 w' b jb pb (zBa S i t) X /\ Only (fun x => ¬ X x) w w' := by
 obtain ⟨bw, bv, ov, K⟩ := K
 have HF0 := uB (zGI K i t)
 by_cases he : refP S i t = 0
 ·obtain ⟨g1, g2, g3, g4, g5, g6⟩ := zOE he
  have hi := zFZ K.jk.sane g1
  have HCL := uB (fun W => zFD t W (by omega))
  have c3 : w.cell? ⟨pb, 3, none⟩ = some (.map (some bw)) := by rw [K.blk.cell]; rfl
  have HKB := uB (fun (w1 : World) (hb : Below w.heap.size w w1) => K.below hb)
  have HI := uB hi
  have HT := uB (show t.size <= maxLen from ht)
  have HLN := uB (show S.tx.length <= 1000000 from by have := K.t16; omega)
  have hlen : (zBU i t S.tx).length <= 16 := by
   rw [zND K.tx.2]
   have := K.t16
   unfold zAQ at g6
   cases hq : (txAt S.tx i).isSome with
   | true => simpa using this
   | false => rw [hq] at g6; simp at g6; simp; omega
  have HFI := uB (fun (w1 w2 : World) (hb : Below w.heap.size w w1) (K1 : PKi w0 w1 b jb pb S X bw bv ov) (hm2 : Mp w2 bw (zBU i t S.tx)) (hO2 : Only (fun x => x = bw) w1 w2) => show PK w0 w2 b jb pb (putS S i t) X /\ Only (fun x => ¬ X x) w w2 from by
   have hpw : pb ≠ bw := K1.tx.not_blk K1.blk
   have r := K1.upd (hO2.mono (fun x _ q => .inr (.inl q))) ov (.inl rfl) (putS S i t) rfl rfl rfl rfl (K1.blk.only hO2 (fun q => hpw q)) hm2 (K1.hn.only hO2 (fun q => K1.ne q.symm) (fun x hx q => K1.tx.not_row K1.hn.ord (by rw [hx, q]))) K1.hk hlen (fun p hp => by
    rcases zEO hp with q | q
    ·subst q
     simp [hasB] at g1
     exact ⟨g2, g1.2, g3⟩
    ·exact K.tok p q)
   exact ⟨r.1, (Only.of_below hb).trans r.2 (fun _ _ q => q)⟩)
  have HW := uB (show zBa S i t = putS S i t from by unfold zBa; rw [if_pos he])
  rw [he] at HF0 ⊢
  clear K g1 g2 g3 g4 g5 g6 hi hlen he
  go_enter Tryz.func23, Tryz.ntmps23
  go_wp2_with (go_at_call 65; refine (uA HF0).mono ?_; rintro e w' ⟨rfl, rfl⟩)
  refine wp_region_held_drew (S := fun w' => w'.cell? ⟨pb, 3, none⟩ = some (.map (some bw))) (by kernel_rfl) c3 ?_
  intro hS
  refine yL 0 (some 15) (.pointer (some ⟨pb, 0, none⟩)) rfl (fun w hSw => by go_simp) hS ?_
  refine yL 1 (some 16) (.pointer (some ⟨pb, 0, none⟩)) rfl (fun w hSw => by go_simp) hS ?_
  refine yL 2 (some 17) (.pointer (some ⟨pb, 3, none⟩)) rfl (fun w hSw => by go_simp) hS ?_
  refine yL 3 (some 18) (.map (some bw)) rfl (fun w hSw => by have hq : _ = _ := hSw; go_simp) hS ?_
  refine yL 4 (some 19) (.int .i64 i) rfl (fun w hSw => by go_simp) hS ?_
  refine yL 5 (some 20) (.string t) rfl (fun w hSw => by go_simp) hS ?_
  refine wpAnyH_ready (rs := [6]) (by kernel_rfl) (by simp) ?_
  refine AllReadyH.cons rfl (fun K hK => ?_) AllReadyH.nil
  simp only [lD, lE, lF]
  go_simp
  refine (uA HCL _).mono ?_
  rintro e w1 ⟨rfl, hb1⟩
  have hB1 : Below w'.heap.size w' w1 := ((Below.refl _ w').drew).trans hb1
  have K1 := (uA HKB) w1 hB1
  have c3' : w1.cell? ⟨pb, 3, none⟩ = some (.map (some bw)) := by rw [K1.blk.cell]; rfl
  refine hK.out _ _ c3' (fun hS => ?_)
  clear hK K
  obtain ⟨w2, hrun, hm2, hO2, hs2⟩ := K1.tx.put (uA HI) t (uA HT) (uA HLN)
  have hpw : pb ≠ bw := K1.tx.not_blk K1.blk
  have c3'' : w2.cell? ⟨pb, 3, none⟩ = some (.map (some bw)) := by rw [(K1.blk.only hO2 (fun q => hpw q)).cell]; rfl
  have HF := uB ((uA HFI) w1 w2 hB1 K1 hm2 hO2)
  clear K1 hm2 hO2 hs2 hpw c3' hB1 hb1
  refine wpAnyH_ready (rs := [7]) (by kernel_rfl) (by simp) ?_
  refine AllReadyH.cons rfl (fun K hK => ?_) AllReadyH.nil
  simp only [lD, lE, lF]
  go_simp
  refine hK.out _ _ c3'' (fun hS => ?_)
  clear hK K
  refine wpAnyH_done (by kernel_rfl) ?_ _
  go_wp2
  go_ret
  rw [uA HW]
  exact ⟨rfl, uA HF⟩
 ·have hne : (refP S i t != 0) = true := by simpa using he
  have HW := uB (show zBa S i t = S from by unfold zBa; rw [if_neg he])
  have HK := uB K
  clear K he ht
  generalize refP S i t = er at *
  go_enter Tryz.func23, Tryz.ntmps23
  go_wp2_with (go_at_call 65; refine (uA HF0).mono ?_; rintro e w' ⟨rfl, rfl⟩)
  go_ret
  rw [uA HW]
  exact ⟨rfl, (uA HK).same⟩
end
section
open Go.RowKit Go.Maps Go.Sort Go.Shelf
theorem zJD (b : ByteArray) (hb : b.size = 32) (i : Nat) (hi : i < 1000000) (w : World) : Calls Tryz.prog 261 #[.string b, .int .i64 (i : Int)] w fun e w' => e = .returned (.string (zBW b i)) /\ Below w.heap.size w w' := by
 have HB1 := uB (fun W => zE8 i hi W)
 have HB2 := uB (fun W => zGG i hi W)
 have hq : i % 256 / 8 < 32 := by omega
 have hr : i % 8 < 8 := Nat.mod_lt _ (by decide)
 obtain ⟨cap, W, hrun, hBs, hbel⟩ := Bsl.of_string w b (by omega)
 have hA := hBs.2.2.2.2.1
 have hl : (nums b).length = 32 := by rw [zAf, hb]
 have c1 := hA.get0 (i % 256 / 8) (by omega)
 have f1 := hA.free0 (i % 256 / 8) (by omega)
 rw [zNr] at c1
 rw [hb] at hrun
 have hxo := zI9 (byN b (i % 256 / 8)) (2 ^ (i % 8)) (zKs _ _) (zKE _ hr)
 have hA2 := hA.set0 (i % 256 / 8) (by omega) ((byN b (i % 256 / 8) ^^^ 2 ^ (i % 8) : Nat) : Int)
 have HT := uB (show zBW b i = strOfNums (zD7 b i) from rfl)
 have hTl : (zD7 b i).length = 32 := by unfold zD7; rw [List.length_set, hl]
 rw [show (nums b).set (i % 256 / 8) ((byN b (i % 256 / 8) ^^^ 2 ^ (i % 8) : Nat) : Int) = zD7 b i from rfl] at hA2
 have hcv := run_convert_bytes_arg (P := Tryz.prog) (W.setCell ⟨w.heap.size, i % 256 / 8, none⟩ (.int .u8 ((byN b (i % 256 / 8) ^^^ 2 ^ (i % 8) : Nat) : Int))).drew 119 5 Tryz.underlying119 Tryz.underlying5 w.heap.size 0 32 cap (zD7 b i) hTl (fun j hj => hA2.get j (by omega)) 9 Tryz.underlying9
 have HBL := uB (show Below w.heap.size w (W.setCell ⟨w.heap.size, i % 256 / 8, none⟩ (.int .u8 ((byN b (i % 256 / 8) ^^^ 2 ^ (i % 8) : Nat) : Int))) from hbel.setCell (Nat.le_refl _) _)
 have hcap : 32 <= cap := by have := hBs.2.2.1; omega
 clear hA2 hA hBs hbel hb
 generalize zD7 b i = TL at *
 generalize zBW b i = TB at *
 generalize byN b (i % 256 / 8) ^^^ 2 ^ (i % 8) = xv at *
 generalize byN b (i % 256 / 8) = x at *
 generalize 2 ^ (i % 8) = pw at *
 clear hr
 generalize i % 256 / 8 = q at *
 obtain ⟨g, hgg⟩ : ∃ g, w.heap.size = g := ⟨_, rfl⟩
 rw [hgg] at hrun c1 f1 hcv HBL
 have i0 : (0 : Int) <= (q : Int) := by omega
 have i1 : (q : Int) < 32 := by omega
 rw [hgg]
 clear hgg hl hTl
 go_enter Tryz.func261, Tryz.ntmps261
 go_wp2
 go_region_with (first | (go_at_call 207; refine (uA HB1 _).mono ?_; rintro e w' ⟨rfl, hw'⟩; subst w') | (go_at_call 208; refine (uA HB2 _).mono ?_; rintro e w' ⟨rfl, hw'⟩; subst w'))
 all_goals
  go_wp2
  go_ret
  rw [uA HT]
  exact ⟨rfl, (uA HBL).drew⟩
def rdE (S : PS) (i k : Nat) : Int := if (zAx S (i : Int)).2.1 = 0 then (if bdOk (zAx S (i : Int)).1 k then 0 else 73) else (zAx S (i : Int)).2.1
def rdT (S : PS) (i k : Nat) : ByteArray := if (zAx S (i : Int)).2.1 = 0 then bdT (zAx S (i : Int)).1 k else ⟨#[]⟩
theorem zK0 {w0 w : World} {b jb pb mb : Nat} {S : PS} {X : Nat -> Prop} {a n : Nat} (K : PK w0 w b jb pb S X) (hM : MB w mb pb a n) (hX : X mb) (hg : ETy w0) (ha : a <= 1000000) (k : Nat) (hk : k <= 1000000) (hT : (zBb S.s ((a + k : Nat) : Int)).size <= maxLen) (hs : (zAx S ((a + k : Nat) : Int)).1.size <= 9223372036854775807) :
  Calls Tryz.prog 141 #[.pointer (some ⟨mb, 0, none⟩), .int .i64 (k : Int)] w fun e w' => e = .returned (.tuple #[.string (rdT S (a + k) k), .int .i64 (rdE S (a + k) k)]) /\ PK w0 w' b jb pb (zAx S ((a + k : Nat) : Int)).2.2 X /\ Only (fun x => ¬ X x) w w' := by
 have c0 := hM.c0
 have c1 := hM.c1
 have Kd : PK w0 w.drew b jb pb S X := K.below ((Below.refl _ w).drew)
 have HRD := uB (zDw Kd ((a + k : Nat) : Int) hT)
 have HMB := uB (show ∀ W, Only (fun x => ¬ X x) w.drew W -> MB W mb pb a n from fun W ho => MB.only (MB.below hM ((Below.refl _ w).drew)) ho (fun q => q hX))
 have HG := uB hg
 have HE := uB (show rdE S (a + k) k = (if (zAx S ((a + k : Nat) : Int)).2.1 = 0 then (if bdOk (zAx S ((a + k : Nat) : Int)).1 k then 0 else 73) else (zAx S ((a + k : Nat) : Int)).2.1) from rfl)
 have HTT := uB (show rdT S (a + k) k = (if (zAx S ((a + k : Nat) : Int)).2.1 = 0 then bdT (zAx S ((a + k : Nat) : Int)).1 k else ⟨#[]⟩) from rfl)
 have e1 : (a : Int) + (k : Int) = ((a + k : Nat) : Int) := by omega
 have hq : a + k <= 2000000 := by omega
 have hwq : IntKind.i64.wrap ((a + k : Nat) : Int) = ((a + k : Nat) : Int) := zAB _ (by omega) (by omega)
 generalize rdE S (a + k) k = re at *
 generalize rdT S (a + k) k = rt at *
 generalize (zAx S ((a + k : Nat) : Int)).1 = t at *
 generalize (zAx S ((a + k : Nat) : Int)).2.1 = er at *
 generalize (zAx S ((a + k : Nat) : Int)).2.2 = S2 at *
 generalize a + k = ak at *
 clear hM K Kd hT hg
 go_enter Tryz.func141, Tryz.ntmps141
 go_wp2
 refine wp_region_held_drew (S := fun w' => w'.cell? ⟨mb, 0, none⟩ = some (.pointer (some ⟨pb, 0, none⟩)) /\ w'.cell? ⟨mb, 1, none⟩ = some (.int .i64 (a : Int))) (by kernel_rfl) ⟨c0, c1⟩ ?_
 intro hS
 refine yL 0 (some 11) (.pointer (some ⟨mb, 0, none⟩)) rfl (fun w hSw => by obtain ⟨q1, q2⟩ := hSw; go_simp) hS ?_
 refine yL 1 (some 12) (.pointer (some ⟨mb, 0, none⟩)) rfl (fun w hSw => by obtain ⟨q1, q2⟩ := hSw; go_simp) hS ?_
 refine yL 2 (some 13) (.pointer (some ⟨mb, 0, none⟩)) rfl (fun w hSw => by obtain ⟨q1, q2⟩ := hSw; go_simp) hS ?_
 refine yL 3 (some 14) (.pointer (some ⟨pb, 0, none⟩)) rfl (fun w hSw => by obtain ⟨q1, q2⟩ := hSw; go_simp) hS ?_
 refine yL 4 (some 15) (.pointer (some ⟨mb, 0, none⟩)) rfl (fun w hSw => by obtain ⟨q1, q2⟩ := hSw; go_simp) hS ?_
 refine yL 5 (some 16) (.pointer (some ⟨mb, 0, none⟩)) rfl (fun w hSw => by obtain ⟨q1, q2⟩ := hSw; go_simp) hS ?_
 refine yL 6 (some 17) (.pointer (some ⟨mb, 1, none⟩)) rfl (fun w hSw => by obtain ⟨q1, q2⟩ := hSw; go_simp) hS ?_
 refine yL 7 (some 18) (.int .i64 (a : Int)) rfl (fun w hSw => by obtain ⟨q1, q2⟩ := hSw; go_simp) hS ?_
 refine yL 8 (some 19) (.int .i64 (k : Int)) rfl (fun w hSw => by obtain ⟨q1, q2⟩ := hSw; go_simp) hS ?_
 refine yL 9 (some 20) (.int .i64 (ak : Int)) rfl (fun w hSw => by obtain ⟨q1, q2⟩ := hSw; go_simp) hS ?_
 refine wpAnyH_ready (rs := [10]) (by kernel_rfl) (by simp) ?_
 refine AllReadyH.cons rfl (fun K hK => ?_) AllReadyH.nil
 simp only [lD, lE, lF]
 go_simp
 refine (uA HRD).mono ?_
 rintro e x1 ⟨rfl, K1, hO1⟩
 have hM1 := uA HMB x1 hO1
 have c0' := hM1.c0
 have c1' := hM1.c1
 have HK1 := uB (And.intro K1 (show Only (fun x => ¬ X x) w x1 from (Only.of_below (P := fun x => ¬ X x) ((Below.refl _ w).drew)).trans hO1 (fun _ _ q => q)))
 clear K1 hO1 hM1 HRD HMB
 refine hK.out _ _ ⟨c0', c1'⟩ (fun hS => ?_)
 clear hK K
 refine yL 11 (some 10) (.tuple #[.string t, .int .i64 er]) rfl (fun w hSw => by obtain ⟨q1, q2⟩ := hSw; go_simp) hS ?_
 refine yL 12 (some 22) (.string t) rfl (fun w hSw => by obtain ⟨q1, q2⟩ := hSw; go_simp) hS ?_
 refine yL 13 (some 23) (.int .i64 er) rfl (fun w hSw => by obtain ⟨q1, q2⟩ := hSw; go_simp) hS ?_
 refine yL 14 (some 6) (.string t) rfl (fun w hSw => by obtain ⟨q1, q2⟩ := hSw; go_simp) hS ?_
 refine yL 15 (some 7) (.int .i64 er) rfl (fun w hSw => by obtain ⟨q1, q2⟩ := hSw; go_simp) hS ?_
 refine wpAnyH_done (by kernel_rfl) ?_ _
 clear hS c0 c1 c0' c1'
 by_cases he : er = 0
 ·subst he
  have hG1 : ETy x1 := (uA HG).below (uA HK1).1.bel (uA HG).lt
  have HBD := uB (zJb t hs k x1 hG1)
  clear hG1 hs
  have hE := uA HE
  have hT := uA HTT
  rw [if_pos rfl] at hE hT
  by_cases hd : bdOk t k
  ·rw [if_pos hd] at hE
   rw [decide_eq_true hd] at HBD
   have HRR := uB (And.intro hE hT)
   clear hE hT HE HTT hd
   go_wp2_with (go_at_call 204; refine (uA HBD).mono ?_; rintro e x2 ⟨rfl, hb2⟩)
   go_ret2
   rw [(uA HRR).1, (uA HRR).2]
   exact ⟨rfl, (uA HK1).1.below hb2, (uA HK1).2.trans (Only.of_below (P := fun x => ¬ X x) hb2) (fun _ _ q => q)⟩
  ·rw [if_neg hd] at hE
   have hbt : bdT t k = ⟨#[]⟩ := by rw [bdT, if_neg hd]
   rw [hbt] at hT HBD
   rw [decide_eq_false hd] at HBD
   have HRR := uB (And.intro hE hT)
   clear hE hT HE HTT hd hbt
   go_wp2_with (go_at_call 204; refine (uA HBD).mono ?_; rintro e x2 ⟨rfl, hb2⟩)
   go_ret2
   rw [(uA HRR).1, (uA HRR).2]
   exact ⟨rfl, (uA HK1).1.below hb2, (uA HK1).2.trans (Only.of_below (P := fun x => ¬ X x) hb2) (fun _ _ q => q)⟩
 ·have hE := uA HE
  have hT := uA HTT
  rw [if_neg he] at hE hT
  have HRR := uB (And.intro hE hT)
  have hne : (er != 0) = true := by simpa using he
  clear hE hT HE HTT he hs
  go_wp2
  go_ret2
  rw [(uA HRR).1, (uA HRR).2]
  exact ⟨rfl, (uA HK1).1, (uA HK1).2⟩
theorem zLc {w0 w : World} {b jb pb mb : Nat} {S : PS} {X : Nat -> Prop} {a n : Nat} (K : PK w0 w b jb pb S X) (hM : MB w mb pb a n) (hX : X mb) (ha : a <= 1000000) (bd : ByteArray) (hbd : bd.size = 32) (p : Nat) (hp : p < 1000000) (hp2 : p / 256 < 1024) :
  Calls Tryz.prog 197 #[.pointer (some ⟨mb, 0, none⟩), .string bd, .int .i64 (p : Int)] w fun e w' => e = .returned (.int .i64 (refP S ((a + p / 256 : Nat) : Int) (pgT (p / 256) (zBW bd p)))) /\ PK w0 w' b jb pb (zBa S ((a + p / 256 : Nat) : Int) (pgT (p / 256) (zBW bd p))) X /\ Only (fun x => ¬ X x) w w' := by
 have c0 := hM.c0
 have c1 := hM.c1
 have HPO := uB (fun W => zCy p (by omega) W)
 have HTU := uB (fun W => zJD bd hbd p (by omega) W)
 have HSE := uB (fun W => zD2 (p / 256) (zBW bd p) W)
 have hts : (pgT (p / 256) (zBW bd p)).size = 256 := zEl _ hp2 _ (by rw [zDV]; exact hbd)
 have HWR := uB (show ∀ W, Below w.heap.size w W -> Calls Tryz.prog 23 #[.pointer (some ⟨pb, 0, none⟩), .int .i64 ((a + p / 256 : Nat) : Int), .string (pgT (p / 256) (zBW bd p))] W fun e w' => e = .returned (.int .i64 (refP S ((a + p / 256 : Nat) : Int) (pgT (p / 256) (zBW bd p)))) /\ PK w0 w' b jb pb (zBa S ((a + p / 256 : Nat) : Int) (pgT (p / 256) (zBW bd p))) X /\ Only (fun x => ¬ X x) W w' from fun W hb => zDQ (K.below hb) _ _ (by rw [hts]; decide))
 have HMB := uB (show ∀ W, Below w.heap.size w W -> MB W mb pb a n from fun W hb => hM.below hb)
 have HMO := uB (show ∀ W W', Below w.heap.size w W -> Only (fun x => ¬ X x) W W' -> MB W' mb pb a n from fun W W' hb ho => (hM.below hb).only ho (fun q => q hX))
 have e1 : (a : Int) + ((p / 256 : Nat) : Int) = ((a + p / 256 : Nat) : Int) := by omega
 have hq : a + p / 256 <= 2000000 := by omega
 have hwq : IntKind.i64.wrap ((a + p / 256 : Nat) : Int) = ((a + p / 256 : Nat) : Int) := zAB _ (by omega) (by omega)
 clear K hM hts hbd
 generalize refP S ((a + p / 256 : Nat) : Int) (pgT (p / 256) (zBW bd p)) = er at *
 generalize zBa S ((a + p / 256 : Nat) : Int) (pgT (p / 256) (zBW bd p)) = S2 at *
 generalize a + p / 256 = ak at *
 generalize pgT (p / 256) (zBW bd p) = tt at *
 generalize zBW bd p = tb at *
 generalize p / 256 = kk at *
 go_enter Tryz.func197, Tryz.ntmps197
 go_wp2_with (go_at_call 145; refine (uA HPO _).mono ?_; rintro e w' ⟨rfl, hw'⟩; subst w')
 refine wp_region_held_drew (S := fun w' => w'.cell? ⟨mb, 0, none⟩ = some (.pointer (some ⟨pb, 0, none⟩)) /\ w'.cell? ⟨mb, 1, none⟩ = some (.int .i64 (a : Int))) (by kernel_rfl) ⟨c0, c1⟩ ?_
 intro hS
 refine yL 0 (some 10) (.pointer (some ⟨mb, 0, none⟩)) rfl (fun w hSw => by obtain ⟨q1, q2⟩ := hSw; go_simp) hS ?_
 refine yL 1 (some 11) (.pointer (some ⟨mb, 0, none⟩)) rfl (fun w hSw => by obtain ⟨q1, q2⟩ := hSw; go_simp) hS ?_
 refine yL 2 (some 12) (.pointer (some ⟨mb, 0, none⟩)) rfl (fun w hSw => by obtain ⟨q1, q2⟩ := hSw; go_simp) hS ?_
 refine yL 3 (some 13) (.pointer (some ⟨pb, 0, none⟩)) rfl (fun w hSw => by obtain ⟨q1, q2⟩ := hSw; go_simp) hS ?_
 refine yL 4 (some 14) (.pointer (some ⟨mb, 0, none⟩)) rfl (fun w hSw => by obtain ⟨q1, q2⟩ := hSw; go_simp) hS ?_
 refine yL 5 (some 15) (.pointer (some ⟨mb, 0, none⟩)) rfl (fun w hSw => by obtain ⟨q1, q2⟩ := hSw; go_simp) hS ?_
 refine yL 6 (some 16) (.pointer (some ⟨mb, 1, none⟩)) rfl (fun w hSw => by obtain ⟨q1, q2⟩ := hSw; go_simp) hS ?_
 refine yL 7 (some 17) (.int .i64 (a : Int)) rfl (fun w hSw => by obtain ⟨q1, q2⟩ := hSw; go_simp) hS ?_
 refine yL 8 (some 18) (.int .i64 (kk : Int)) rfl (fun w hSw => by obtain ⟨q1, q2⟩ := hSw; go_simp) hS ?_
 refine yL 9 (some 19) (.int .i64 (ak : Int)) rfl (fun w hSw => by obtain ⟨q1, q2⟩ := hSw; go_simp) hS ?_
 refine yL 10 (some 20) (.int .i64 (kk : Int)) rfl (fun w hSw => by obtain ⟨q1, q2⟩ := hSw; go_simp) hS ?_
 refine yL 11 (some 21) (.string bd) rfl (fun w hSw => by obtain ⟨q1, q2⟩ := hSw; go_simp) hS ?_
 refine yL 12 (some 22) (.int .i64 (p : Int)) rfl (fun w hSw => by obtain ⟨q1, q2⟩ := hSw; go_simp) hS ?_
 refine wpAnyH_ready (rs := [13]) (by kernel_rfl) (by simp) ?_
 refine AllReadyH.cons rfl (fun K hK => ?_) AllReadyH.nil
 simp only [lD, lE, lF]
 go_simp
 refine (uA HTU _).mono ?_
 rintro e x1 ⟨rfl, hb1⟩
 have hB1 : Below w.heap.size w x1 := ((Below.refl _ w).drew).trans hb1
 have hM1 := uA HMB x1 hB1
 have c0' := hM1.c0
 have c1' := hM1.c1
 have HB1 := uB hB1
 clear hB1 hb1 hM1 HTU
 refine hK.out _ _ ⟨c0', c1'⟩ (fun hS => ?_)
 clear hK K
 refine wpAnyH_ready (rs := [14]) (by kernel_rfl) (by simp) ?_
 refine AllReadyH.cons rfl (fun K hK => ?_) AllReadyH.nil
 simp only [lD, lE, lF]
 go_simp
 refine (uA HSE _).mono ?_
 rintro e x2 ⟨rfl, hb2⟩
 have hB2 : Below w.heap.size w x2 := (uA HB1).trans (hb2.mono (uA HB1).size)
 have hM2 := uA HMB x2 hB2
 have c02 := hM2.c0
 have c12 := hM2.c1
 have HB2 := uB hB2
 clear hB2 hb2 hM2 HSE HB1
 refine hK.out _ _ ⟨c02, c12⟩ (fun hS => ?_)
 clear hK K
 refine wpAnyH_ready (rs := [15]) (by kernel_rfl) (by simp) ?_
 refine AllReadyH.cons rfl (fun K hK => ?_) AllReadyH.nil
 simp only [lD, lE, lF]
 go_simp
 refine (uA HWR x2 (uA HB2)).mono ?_
 rintro e x3 ⟨rfl, K3, hO3⟩
 have hM3 := uA HMO x2 x3 (uA HB2) hO3
 have c03 := hM3.c0
 have c13 := hM3.c1
 have HK3 := uB (And.intro K3 ((Only.of_below (P := fun x => ¬ X x) (uA HB2)).trans hO3 (fun _ _ q => q)))
 clear K3 hO3 hM3 HWR
 refine hK.out _ _ ⟨c03, c13⟩ (fun hS => ?_)
 clear hK K
 refine yL 16 (some 6) (.int .i64 er) rfl (fun w hSw => by obtain ⟨q1, q2⟩ := hSw; go_simp) hS ?_
 refine wpAnyH_done (by kernel_rfl) ?_ _
 go_wp2
 go_ret
 exact ⟨rfl, (uA HK3).1, (uA HK3).2⟩
def chgS (S : PS) : PS := if S.op then S else if S.lost then S else endS S
theorem zE0 {w0 w : World} {b jb pb mb : Nat} {S : PS} {X : Nat -> Prop} {a n : Nat} (K : PK w0 w b jb pb S X) (hM : MB w mb pb a n) (hX : X mb) :
  Calls Tryz.prog 196 #[.pointer (some ⟨mb, 0, none⟩)] w fun e w' => e = .returned (.bool S.op) /\ PK w0 w' b jb pb (chgS S) X /\ Only (fun x => ¬ X x) w w' := by
 have c0 := hM.c0
 have HBG := uB (zCC K)
 have HMB := uB (show ∀ W, Only (fun x => ¬ X x) w W -> MB W mb pb a n from fun W ho => hM.only ho (fun q => q hX))
 clear K hM
 cases ho : S.op with
 | true =>
  rw [show zAU S = 60 from by simp [zAU, ho], show zAG S = S from by simp [zAG, ho]] at HBG
  have HC := uB (show chgS S = S from by simp [chgS, ho])
  clear ho
  go_enter Tryz.func196, Tryz.ntmps196
  go_wp2_with (go_at_call 11; refine (uA HBG).mono ?_; rintro e x1 ⟨rfl, K1, hO1⟩)
  go_ret
  rw [uA HC]
  exact ⟨rfl, K1, hO1⟩
 | false =>
  cases hl : S.lost with
  | true =>
   rw [show zAU S = 2 from by simp [zAU, ho, hl], show zAG S = S from by simp [zAG, ho, hl]] at HBG
   have HC := uB (show chgS S = S from by simp [chgS, ho, hl])
   clear ho hl
   go_enter Tryz.func196, Tryz.ntmps196
   go_wp2_with (go_at_call 11; refine (uA HBG).mono ?_; rintro e x1 ⟨rfl, K1, hO1⟩)
   go_ret
   rw [uA HC]
   exact ⟨rfl, K1, hO1⟩
  | false =>
   rw [show zAU S = 0 from by simp [zAU, ho, hl], show zAG S = { S with op := true } from by simp [zAG, ho, hl]] at HBG
   have HC := uB (show chgS S = endS { S with op := true } from by simp [chgS, ho, hl, endS])
   have HAE := uB (show zDk { S with op := true } = 0 /\ zDn { S with op := true } = endS { S with op := true } from by simp [zDk, zDn])
   clear ho hl
   go_enter Tryz.func196, Tryz.ntmps196
   go_wp2_with fail
   refine (uA HBG).mono ?_
   rintro e x1 ⟨rfl, K1, hO1⟩
   have c0' := (uA HMB x1 hO1).c0
   have HAB := uB (zFA K1)
   rw [(uA HAE).1, (uA HAE).2] at HAB
   have HO1 := uB hO1
   clear K1 hO1 HBG c0
   go_wp2_with fail
   refine (uA HAB).mono ?_
   rintro e x2 ⟨rfl, K2, hO2⟩
   have HK2 := uB (And.intro K2 ((uA HO1).trans hO2 (fun _ _ q => q)))
   clear K2 hO2 HAB
   go_wp2
   go_ret
   rw [uA HC]
   exact ⟨rfl, (uA HK2).1, (uA HK2).2⟩
end
section
open Go.RowKit Go.Maps Go.Sort Go.Shelf
theorem zPy (m : Nat) : AnyZI.SortsIn Tryz.prog Tryz.sortedL_ren Fence.wide m :=
  ⟨fun blk off cap ss W hH hblk hsz => callsIn_wide.2 (Tryz.slices_Sort_int blk off cap ss W hH hblk hsz),
   fun p cap W => callsIn_wide.2 (Tryz.slices_Sort_int_none p cap W)⟩
theorem zKr (w : World) (bm pb : Nat) (l : Tx) (hm : Mp w bm l) (hl : l.length <= 1000000) (c3 : w.cell? ⟨pb, 3, none⟩ = some (.map (some bm))) :
  Calls Tryz.prog 112 #[.pointer (some ⟨pb, 0, none⟩)] w fun e w' => ∃ v, e = .returned v /\ w'.ownsRow w.heap.size 3 1 v (l.map (·.1)).length ((l.map (·.1)).map encZ) /\ Below w.heap.size w w' := by
 refine (callsIn_wide (n := 6)).1 ?_
 have hbl := hm.lt
 have hsz : Maps.size (txD l) = l.length := zEi l
 have hseq : SeqGives Fence.wide 2 Tryz.prog 250 #[.pointer (some ⟨w.heap.size, 0, none⟩)] encZ (fun ss => ss.Perm (intKeys (txD l))) (Maps.size (txD l)) (w.alloc (.cells #[.map (some bm)] 80)) :=
  AnyZI.keys_gives (ρ := Tryz.keysL_ren) { Tryz.keysL with } Fence.wide _ trivial rfl (by omega) w.heap.size bm l.length (txD l) _ (by simp) (by simp) (hm.1.alloc _)
 have cK : ∀ mb W, CallsIn Fence.wide 5 Tryz.prog 177 #[.map mb] W fun e w' => e = .returned (.func (.func 250) #[] #[.pointer (some ⟨W.heap.size, 0, none⟩)]) /\ w' = W.alloc (.cells #[.map mb] 80) := fun mb W => AnyZI.keys_in Tryz.keysL Fence.wide 5 trivial rfl mb W
 have cS := AnyZI.sorted_in Tryz.sortedL Fence.wide 5 trivial trivial trivial trivial rfl (by omega) (zPy _) (enters_of Tryz.func182 (by kernel_rfl) rfl) 250 #[.pointer (some ⟨w.heap.size, 0, none⟩)] trivial (enters_of Tryz.func250 (by kernel_rfl) rfl) _ _ (by rw [hsz]; unfold maxLen; omega) (by rw [hsz]; omega) _ hseq
 change CallsIn _ _ Tryz.prog 176 _ _ _ at cS
 have hfK : Fence.wide.fn 177 := trivial
 have hfS : Fence.wide.fn 176 := trivial
 have HS := uB hm.2
 clear hm hsz hseq hl
 refine callsIn_of_wp Tryz.func112 rfl trivial ?_ rfl
 simp only [Tryz.ntmps112, List.size_toArray, List.length_cons, List.length_nil, Nat.reduceAdd, Nat.reduceSub, Array.replicate_succ, Array.replicate_zero, List.push_toArray, List.append_toArray, List.nil_append, List.cons_append]
 gi_wp2_with (first
  | (gi_at_call 177; refine (cK _ _).mono ?_; rintro e w' ⟨rfl, rfl⟩)
  | (gi_at_call 176; refine cS.mono ?_; rintro e w' ⟨v, ss, rfl, hp, hrow, hnil, hb⟩))
 go_ret
 refine ⟨v, rfl, ?_, ((Below.refl _ w).alloc (Nat.le_refl _) _).trans (hb.mono (by simp))⟩
 have h1 := zHW (uA HS) hp
 have h2 : ss.length = (l.map (·.1)).length := by rw [<- h1, List.length_mergeSort]
 rw [h1, h2] at hrow
 exact ownsRow_base_a hrow (by simp)
end
section
open Go.RowKit Go.Maps Go.Sort Go.Shelf
def WrI (w : World) (bm : Nat) (l : Tx) (dv : Value) (k : Nat) (u : Value) (wr : World) : Prop :=
 wr.ownsRow w.heap.size 112 2 u k (wrv (l.take k)) /\ wr.ownsRow w.heap.size 3 1 dv l.length ((l.map (·.1)).map encZ) /\ Below w.heap.size w wr /\ Mp wr bm l
theorem zPv {l : Tx} (h : Srt l) (k : Nat) (hk : k < l.length) : txAt l l[k].1 = some l[k].2 := (zDF h).2 (List.getElem_mem hk)
theorem zJd (w : World) (bm pb : Nat) (l : Tx) (hm : Mp w bm l) (hl : l.length <= 1000) (hw : ∀ p ∈ l, I64k p.1) (cur : Array Value) (hB : Blk w pb cur 84) (c3 : cur[3]? = some (.map (some bm))) :
  Calls Tryz.prog 53 #[.pointer (some ⟨pb, 0, none⟩)] w fun e w' => ∃ v, e = .returned v /\ w'.ownsRow w.heap.size 112 2 v l.length (wrv l) /\ Below w.heap.size w w' := by
 have HD := uB (zKr w bm pb l hm (by omega) (by rw [hB.cell]; exact c3))
 have hpl := hB.lt
 have hml := hm.lt
 obtain ⟨i0, hi0, hz0, hz1, hz2⟩ := info_parts zNo
 have HI := uB (And.intro hi0 (And.intro hz0 (And.intro hz1 hz2)))
 have HK := uB (And.intro hm (And.intro hB (And.intro c3 hw)))
 clear hi0 hz0 hz1 hz2 hm hB c3 hw
 go_enter Tryz.func53, Tryz.ntmps53
 go_wp2_with fail
 refine (uA HD).mono ?_
 rintro e w1 ⟨dv, rfl, hr, hb⟩
 rw [List.length_map] at hr
 have X0 := uB (show WrI w bm l dv 0 (.slice none 0 0) w1 from ⟨World.ownsRow_nil _ _ _ _, hr, hb, (uA HK).1.below hb hml⟩)
 obtain ⟨dp, dc, hdv, _⟩ := zAy hr
 subst hdv
 clear HD hr hb
 go_wp2
 go_loopw [3, 9] (fun u i wr => ∃ k : Nat, k <= l.length /\ i = .int .i64 (k : Int) /\ WrI w bm l (.slice dp l.length dc) k u wr) (fun _ i _ => l.length - (intOf i).toNat)
 case atStart => exact ⟨0, by omega, rfl, uA X0⟩
 case round =>
  obtain ⟨k, hk, rfl, h1, h2, h3, h4⟩ := hrel
  obtain ⟨wo, rfl⟩ : ∃ wo, wo = wr := ⟨_, rfl⟩
  clear X0
  obtain ⟨pv, cv, rfl, hcv⟩ := zAy h1
  by_cases hkl : k < l.length
  ·have hkl' : (k : Int) < (l.length : Int) := by omega
   obtain ⟨z, hz⟩ : ∃ z, l[k].1 = z := ⟨_, rfl⟩
   obtain ⟨t, ht⟩ : ∃ t, l[k].2 = t := ⟨_, rfl⟩
   have hzk : I64k z := by rw [<- hz]; exact (uA HK).2.2.2 _ (List.getElem_mem hkl)
   have hat : txAt l z = some t := by rw [<- hz, <- ht]; exact zPv h4.2 k hkl
   have hlk := (h4.look hzk).2
   rw [hat] at hlk
   simp only [Option.getD_some] at hlk
   rcases h2.2 with ⟨q, q0⟩ | ⟨g, cap, cu, q, hgb0, hgb, q1, q2, q3, q4⟩
   ·omega
   injection q with q5 q6 q7
   subst q5 q7
   have cz : wo.cell? ⟨g, k, none⟩ = some (.int .i64 z) := by
    rw [(show Blk wo g cu 3 from hgb).cell, <- Array.getElem?_toList]
    have e1 : (cu.toList.take (l.length * 1))[k]? = ((l.map (·.1)).map encZ)[k]? := by rw [q4]
    rw [List.getElem?_take_of_lt (by omega)] at e1
    rw [e1, <- hz]
    simp [hkl]
   have cp : wo.cell? ⟨pb, 3, none⟩ = some (.map (some bm)) := by
    have := (uA HK).2.1.below h3 hpl
    rw [this.cell]; exact (uA HK).2.2.1
   have hone : wrv (l.take (k + 1)) = wrv (l.take k) ++ wrv [(z, t)] := by
    rw [<- zHK, List.take_succ_eq_append_getElem hkl, <- hz, <- ht]
   have HRA := uB (show (wo.alloc (.cells #[.int .i64 z, .string t] 112)).ownsRow w.heap.size 112 2 (.slice pv k cv) k (wrv (l.take k)) from h1.alloc _)
   have HXS := uB (show w.heap.size <= (wo.alloc (.cells #[.int .i64 z, .string t] 112)).heap.size from by have := h3.size; simp; omega)
   have hgn : (Value.slice pv k cv).ownBlock ≠ some g := (show Blk wo g cu 3 from hgb).not_row (by decide) h1
   have HX := uB (And.intro h2 (And.intro h3 (And.intro h4 (And.intro hone hgn))))
   clear h1 h2 h3 h4 hone hgn hgb q1 q2 q3 q4 q6 hat hz ht hzk hgb0
   generalize hln : l.length = n at *
   have i0' : (0 : Int) <= (k : Int) := by omega
   go_wp2_with (refine wpList_append_own _ rfl (.tmp 13) (.tmp 22) 63 rfl w.heap.size 112 i0 (.agg #[.int .i64 0, .string ⟨#[]⟩]) 2 24 Tryz.underlying63 (uA HI).1 (uA HI).2.1 (uA HI).2.2.1 (uA HI).2.2.2 rfl (by decide) _ k (wrv (l.take k)) rfl (uA HRA) ⟨wo.heap.size, 0, none⟩ 1 1 (wrv [(z, t)]) rfl rfl (fun q u hu => zEh wo 112 _ _ q u hu) (by simp [wrv, Value.oneCell']) (by unfold maxLen; omega) (by omega) (uA HXS) ?_)
   intro v5 x5 ho5 hg5 _
   obtain ⟨h2, h3, h4, hone, hgn⟩ := uA HX
   have hOa : Only (fun _ => False) wo (wo.alloc (.cells #[.int .i64 z, .string t] 112)) := (Only.refl _ _).alloc _
   have hO5 : Only (fun q => (Value.slice pv k cv).ownBlock = some q) (wo.alloc (.cells #[.int .i64 z, .string t] 112)) x5 := (Only.refl _ _).grown hg5 (fun q _ e => e)
   have hnr : ∀ q, (Value.slice pv k cv).ownBlock = some q -> w.heap.size <= q := fun q hq => ((uA HRA).lt q hq).1
   have HRR := uB (show WrI w bm l (.slice (some ⟨g, 0, none⟩) n dc) (k + 1) v5 x5 from by
    refine ⟨by rw [hone]; simpa using ho5, ?_, (h3.alloc h3.size _).grown hg5 (uA HXS) (fun q hq => hnr q hq), (h4.only hOa (fun q => q)).only hO5 (fun q => by have := hnr bm q; omega)⟩
    rw [hln]
    exact zAh (zAh h2 hOa (fun _ _ q => q)) hO5 (fun x hx q => hgn (by rw [q]; simpa [Value.ownBlock] using hx.symm)))
   clear ho5 hg5 hO5 hOa hnr HRA h2 h3 h4 hone hgn HX
   go_wp2
   go_roundw
   case rel => exact ⟨k + 1, by omega, by go_num, uA HRR⟩
   case measure => simp [intOf]; omega
  ·have hke : l.length = k := by omega
   have hkl' : ¬ ((k : Int) < (l.length : Int)) := by omega
   rw [List.take_of_length_le (by omega)] at h1
   have HR := uB (And.intro h1 h3)
   have HE := uB hke
   clear h1 h2 h3 h4 hke
   go_wp2
   go_ret
   rw [uA HE]
   exact ⟨_, rfl, uA HR⟩
end
end Go.Proofs.YtdpnbemagiekoaaGreatDoor
