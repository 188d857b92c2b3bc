import Derived.Test.YtpcmifmgkccfnaaGreatDoorMv28
import Derived.Test.YtpcmifmgkccfnaaGreatDoorMv06
import Derived.Deep.RegionHeld3
import Derived.Test.YtpcmifmgkccfnaaGreatDoorMv16
import Derived.Test.YtpcmifmgkccfnaaGreatDoorMv13
import Derived.Test.YtpcmifmgkccfnaaGreatDoorMv15
import Derived.Test.YtpcmifmgkccfnaaGreatDoorMv20
import Derived.WalkMore
namespace Go.Proofs.YtpcmifmgkccfnaaGreatDoor
open Go.RowKit Go.Maps Go.Sort Go.Shelf
theorem Mp.look_size {w : World} {b : Nat} {l : Tx} (h : Mp w b l) {k : Int} (hk : I64k k) : ((txAt l k).getD ByteArray.empty).size ≤ maxLen := by
  have hz0 : plainElem (H := Unit) Tryz.prog 9 (.string ByteArray.empty) = some (litS ByteArray.empty, []) := plainElem_string Tryz.underlying9 (by decide)
  obtain ⟨v, ps, hrun, hv⟩ := h.1.lookup law3 Tryz.underlying70 (zero9 w) hz0 (key3 hk)
  have h2 := (h.look hk).2
  rw [hrun] at h2
  injection h2 with h2 _
  subst h2
  obtain ⟨c, e, _, hc⟩ := plainElem_string_inv Tryz.underlying9 hv
  injection e with e
  rw [e]; exact hc
def inc (x : Int) : Int := IntKind.i64.wrap (x + 1)
def missS (S : PS) (i : Int) : PS := { S with mis := inc S.mis, h := hLay S.keep i (readT S.s i) S.h }
def hitS (S : PS) (i : Int) (t : ByteArray) : PS := { S with hits := inc S.hits, h := hLay S.keep i t S.h }
def lostS (S : PS) : PS := { S with lost := true }
/-- What Read answers and leaves. -/
def readP (S : PS) (i : Int) : ByteArray × Int × PS :=
  if hasB S.s i = false then (⟨#[]⟩, 41, S)
  else if S.lost then (⟨#[]⟩, 2, S)
  else match txAt S.tx i with
    | some t => (t, 0, S)
    | none => match txAt S.h i with
      | some t => (t, 0, hitS S i t)
      | none => if readE S.s i = 0 then (readT S.s i, 0, missS S i) else (⟨#[]⟩, readE S.s i, lostS S)
theorem hasB_i64 {s : DSt} (hs : Sane s) {i : Int} (h : hasB s i = true) : I64k i := by
  have := hs.cap
  simp [hasB] at h
  exact ⟨by omega, by omega⟩
theorem Hb.pf {pb bw bv : Nat} {ov : Value} {x : Nat} (h : Hb pb bv ov x) : Pf pb bw bv ov x := by
  rcases h with q | q | q
  · exact .inl q
  · exact .inr (.inr (.inl q))
  · exact .inr (.inr (.inr q))
theorem PKi.lay {w0 w : World} {b jb pb : Nat} {S : PS} {X : Nat → Prop} {bw bv : Nat} {ov : Value} (K : PKi w0 w b jb pb S X bw bv ov) (k : Int) (hk : I64k k) (s : ByteArray) (hs : s.size ≤ maxLen) :
    Calls Tryz.prog 42 #[.pointer (some ⟨pb, 4, none⟩), .int .i64 k, .string s] w fun e w' => e = .returned (.tuple #[]) ∧ PK w0 w' b jb pb { S with h := hLay S.keep k s S.h } X ∧ Only (fun x => ¬ X x) w w' := by
  refine (hlay_any w w0.heap.size pb b jb S.op bw S.keep bv ov S.hits S.mis S.lost S.h K.blk K.hn K.jk.bel.size k hk s hs K.hk K.kp).mono ?_
  rintro e w' ⟨rfl, ov', r1, r2, r3, r4⟩
  have hp1 : ¬ Hb pb bv ov bw := by
    rintro (q | q | q)
    · exact K.tx.not_blk K.blk q.symm
    · exact K.ne q
    · exact K.tx.not_row K.hn.ord q
  exact ⟨rfl, K.upd (r3.mono (fun x _ q => q.pf)) ov' r4 { S with h := hLay S.keep k s S.h } rfl rfl rfl rfl r1 (K.tx.only r3 hp1) r2 (hLay_len _ _ _ _) K.t16 K.tok⟩
set_option maxRecDepth 100000 in
set_option maxHeartbeats 1000000 in
theorem fetch_any {w0 w : World} {b jb pb : Nat} {S : PS} {X : Nat → Prop} {bw bv : Nat} {ov : Value} (K : PKi w0 w b jb pb S X bw bv ov) (i : Int) (hi : I64k i) (hT : (readT S.s i).size ≤ maxLen) :
    Calls Tryz.prog 128 #[.pointer (some ⟨pb, 0, none⟩), .int .i64 i] w fun e w' => e = .returned (.tuple #[.string (if readE S.s i = 0 then readT S.s i else ⟨#[]⟩), .int .i64 (readE S.s i)]) ∧ PK w0 w' b jb pb (if readE S.s i = 0 then missS S i else lostS S) X ∧ Only (fun x => ¬ X x) w w' := by
  obtain ⟨v, hd⟩ := K.jk.dk
  have HR := hide (read_any w _ b v S.s hd K.jk.sane.same i)
  have c0 : w.cell? ⟨pb, 0, none⟩ = some (.pointer (some ⟨b, 0, none⟩)) := by rw [K.blk.cell]; rfl
  have c8 : w.cell? ⟨pb, 8, none⟩ = some (.int .i64 S.mis) := by rw [K.blk.cell]; rfl
  have c9 : w.cell? ⟨pb, 9, none⟩ = some (.bool S.lost) := by rw [K.blk.cell]; rfl
  have f8 : w.frozen? ⟨pb, 8, none⟩ = false := K.blk.frozen 8
  have f9 : w.frozen? ⟨pb, 9, none⟩ = false := K.blk.frozen 9
  by_cases he : readE S.s i = 0
  · rw [if_pos he, if_pos he]
    rw [he] at HR ⊢
    obtain ⟨K1, hO1⟩ := K.store 8 (.int .i64 (inc S.mis)) { S with mis := inc S.mis } rfl rfl rfl rfl rfl rfl rfl
    have HL := hide (K1.lay i hi (readT S.s i) hT)
    have HI := hide (show IntKind.i64.wrap (S.mis + 1) = inc S.mis from rfl)
    have HO := hide hO1
    have HM := hide (show ({ ({ S with mis := inc S.mis } : PS) with h := hLay S.keep i (readT S.s i) S.h } : PS) = missS S i from rfl)
    clear K K1 hO1 hd hT he hi
    generalize readT S.s i = t at *
    obtain ⟨mi, hmi⟩ : ∃ m, inc S.mis = m := ⟨_, rfl⟩
    rw [hmi] at HI HO HL
    have hwr := unhide HI
    clear HI
    go_enter Tryz.func128, Tryz.ntmps128
    go_wp2_with (first
      | (go_at_call 63; refine (unhide HR).mono ?_; rintro e w' ⟨rfl, rfl⟩)
      | (go_at_call 42; refine (unhide HL).mono ?_; rintro e w' ⟨rfl, hk, ho⟩))
    go_ret2
    refine ⟨rfl, ?_, (unhide HO).trans ho (fun _ _ q => q)⟩
    rw [← unhide HM, hmi]
    exact hk
  · rw [if_neg he, if_neg he]
    have hne : (readE S.s i != 0) = true := by simpa using he
    obtain ⟨K1, hO1⟩ := K.store 9 (.bool true) (lostS S) rfl rfl rfl rfl rfl rfl rfl
    have HL := hide (And.intro (show PK w0 _ b jb pb (lostS S) X from ⟨bw, bv, ov, K1⟩) hO1)
    clear K K1 hO1 hd hT he hi
    generalize readT S.s i = t at *
    generalize readE S.s i = er at *
    go_enter Tryz.func128, Tryz.ntmps128
    go_wp2_with (go_at_call 63; refine (unhide HR).mono ?_; rintro e w' ⟨rfl, rfl⟩)
    go_ret2
    exact ⟨rfl, unhide HL⟩
set_option maxRecDepth 100000 in
set_option maxHeartbeats 1000000 in
theorem pread_any {w0 w : World} {b jb pb : Nat} {S : PS} {X : Nat → Prop} (K : PK w0 w b jb pb S X) (i : Int) (hT : (readT S.s i).size ≤ maxLen) :
    Calls Tryz.prog 72 #[.pointer (some ⟨pb, 0, none⟩), .int .i64 i] w fun e w' => e = .returned (.tuple #[.string (readP S i).1, .int .i64 (readP S i).2.1]) ∧ PK w0 w' b jb pb (readP S i).2.2 X ∧ Only (fun x => ¬ X x) w w' := by
  obtain ⟨bw, bv, ov, K⟩ := K
  have HH := hide (K.has i)
  cases hh : hasB S.s i with
  | false =>
    rw [hh] at HH
    have HR := hide (show readP S i = (⟨#[]⟩, 41, S) from by unfold readP; rw [hh]; rfl)
    have HK := hide K
    clear K hh hT
    go_enter Tryz.func72, Tryz.ntmps72
    go_wp2_with (go_at_call 126; refine (unhide HH).mono ?_; rintro e w' ⟨rfl, rfl⟩)
    go_ret2
    rw [unhide HR]
    exact ⟨rfl, (unhide HK).same⟩
  | true =>
    rw [hh] at HH
    have hi := hasB_i64 K.jk.sane hh
    have c9 : w.cell? ⟨pb, 9, none⟩ = some (.bool S.lost) := by rw [K.blk.cell]; rfl
    have c3 : w.cell? ⟨pb, 3, none⟩ = some (.map (some bw)) := by rw [K.blk.cell]; rfl
    cases hl : S.lost with
    | true =>
      rw [hl] at c9
      have HR := hide (show readP S i = (⟨#[]⟩, 2, S) from by unfold readP; rw [hh, hl]; rfl)
      have HK := hide K
      clear K hh hT hl hi
      go_enter Tryz.func72, Tryz.ntmps72
      go_wp2_with (go_at_call 126; refine (unhide HH).mono ?_; rintro e w' ⟨rfl, rfl⟩)
      go_ret2
      rw [unhide HR]
      exact ⟨rfl, (unhide HK).same⟩
    | false =>
      rw [hl] at c9
      have hlk := (K.tx.look hi).1
      cases ht : txAt S.tx i with
      | some t =>
        rw [ht] at hlk
        simp only [Option.getD_some, Option.isSome_some] at hlk
        have HR := hide (show readP S i = (t, 0, S) from by unfold readP; rw [hh, hl, ht]; rfl)
        have HK := hide K
        clear K hh hT hl hi ht
        go_enter Tryz.func72, Tryz.ntmps72
        go_wp2_with (go_at_call 126; refine (unhide HH).mono ?_; rintro e w' ⟨rfl, rfl⟩)
        go_ret2
        rw [unhide HR]
        exact ⟨rfl, (unhide HK).same⟩
      | none =>
        rw [ht] at hlk
        simp only [Option.getD_none, Option.isSome_none] at hlk
        have HF := hide (hfind_any w _ pb b jb S.op bw S.keep bv ov S.hits S.mis S.lost S.h K.blk K.hn i hi)
        cases hf : txAt S.h i with
        | some t =>
          rw [hf] at HF
          simp only [Option.getD_some, Option.isSome_some] at HF
          have hts : t.size ≤ maxLen := by
            obtain ⟨L, hp, hm⟩ := K.hn.mp
            have := hm.look_size hi
            rw [← at_perm hm.2.nd hp i, hf] at this
            exact this
          have HR := hide (show readP S i = (t, 0, hitS S i t) from by unfold readP; rw [hh, hl, ht]; simp only [hf]; rfl)
          have c7 : w.cell? ⟨pb, 7, none⟩ = some (.int .i64 S.hits) := by rw [K.blk.cell]; rfl
          have f7 : w.frozen? ⟨pb, 7, none⟩ = false := K.blk.frozen 7
          obtain ⟨K1, hO1⟩ := K.store 7 (.int .i64 (inc S.hits)) { S with hits := inc S.hits } rfl rfl rfl rfl rfl rfl rfl
          have HL := hide (K1.lay i hi t hts)
          have HO := hide hO1
          have HM := hide (show ({ ({ S with hits := inc S.hits } : PS) with h := hLay S.keep i t S.h } : PS) = hitS S i t from rfl)
          obtain ⟨mi, hmi⟩ : ∃ m, inc S.hits = m := ⟨_, rfl⟩
          have hwr : IntKind.i64.wrap (S.hits + 1) = mi := hmi
          rw [hmi] at HO HL
          clear K K1 hO1 hh hT hl hi ht hf hts
          go_enter Tryz.func72, Tryz.ntmps72
          go_wp2_with (first
            | (go_at_call 126; refine (unhide HH).mono ?_; rintro e w' ⟨rfl, rfl⟩)
            | (go_at_call 127; refine (unhide HF).mono ?_; rintro e w' ⟨rfl, rfl⟩)
            | (go_at_call 42; refine (unhide HL).mono ?_; rintro e w' ⟨rfl, hk, ho⟩))
          go_ret2
          rw [unhide HR]
          refine ⟨rfl, ?_, (unhide HO).trans ho (fun _ _ q => q)⟩
          show PK _ _ _ _ _ (hitS S i t) _
          rw [← unhide HM, hmi]
          exact hk
        | none =>
          rw [hf] at HF
          simp only [Option.getD_none, Option.isSome_none] at HF
          have HFE := hide (fetch_any K i hi hT)
          have HR := hide (show readP S i = (if readE S.s i = 0 then readT S.s i else ⟨#[]⟩, readE S.s i, if readE S.s i = 0 then missS S i else lostS S) from by
            unfold readP
            rw [hh, hl, ht]
            simp only [hf]
            by_cases h0 : readE S.s i = 0
            · simp [h0]
            · simp [h0])
          clear K hh hT hl hi ht hf
          generalize (if readE S.s i = 0 then readT S.s i else ⟨#[]⟩) = t at *
          generalize readE S.s i = er at *
          go_enter Tryz.func72, Tryz.ntmps72
          go_wp2_with (first
            | (go_at_call 126; refine (unhide HH).mono ?_; rintro e w' ⟨rfl, rfl⟩)
            | (go_at_call 127; refine (unhide HF).mono ?_; rintro e w' ⟨rfl, rfl⟩)
            | (go_at_call 128; refine (unhide HFE).mono ?_; rintro e w' ⟨rfl, hk, ho⟩))
          go_ret2
          rw [unhide HR]
          exact ⟨rfl, hk, ho⟩
end Go.Proofs.YtpcmifmgkccfnaaGreatDoor

namespace Go.Proofs.YtpcmifmgkccfnaaGreatDoor
open Go.RowKit Go.Maps Go.Sort Go.Shelf
def roomB (S : PS) (i : Int) : Bool := (txAt S.tx i).isSome || decide ((S.tx.length : Int) < 16)
theorem PKi.room {w0 w : World} {b jb pb : Nat} {S : PS} {X : Nat → Prop} {bw bv : Nat} {ov : Value} (K : PKi w0 w b jb pb S X bw bv ov) (i : Int) (hi : I64k i) :
    Calls Tryz.prog 173 #[.pointer (some ⟨pb, 0, none⟩), .int .i64 i] w fun e w' => e = .returned (.bool (roomB S i)) ∧ w' = w := by
  have c3 : w.cell? ⟨pb, 3, none⟩ = some (.map (some bw)) := by rw [K.blk.cell]; rfl
  have hlk := (K.tx.look hi).1
  have hln := fun ty => K.tx.len ty
  unfold roomB
  clear K hi
  generalize (txAt S.tx i).getD ByteArray.empty = t at *
  generalize (S.tx.length : Int) = n at *
  cases hq : (txAt S.tx i).isSome with
  | true =>
    rw [hq] at hlk
    clear hq
    go_enter Tryz.func173, Tryz.ntmps173
    go_wp2
    go_ret
    exact ⟨by simp, rfl⟩
  | false =>
    rw [hq] at hlk
    clear hq
    go_enter Tryz.func173, Tryz.ntmps173
    go_wp2
    go_ret
    exact ⟨by simp, rfl⟩
/-- Why a sector may not be written. -/
def refP (S : PS) (i : Int) (t : ByteArray) : Int :=
  if hasB S.s i = false then 41 else if i < 19 then 52 else if t.size ≠ 256 then 42 else if S.op = false then 61 else if S.lost then 2 else if roomB S i then 0 else 62
set_option maxRecDepth 100000 in
set_option maxHeartbeats 1000000 in
theorem prefusal_any {w0 w : World} {b jb pb : Nat} {S : PS} {X : Nat → Prop} {bw bv : Nat} {ov : Value} (K : PKi w0 w b jb pb S X bw bv ov) (i : Int) (t : ByteArray) :
    Calls Tryz.prog 136 #[.pointer (some ⟨pb, 0, none⟩), .int .i64 i, .string t] w fun e w' => e = .returned (.int .i64 (refP S i t)) ∧ w' = w := by
  have HH := hide (K.has i)
  have c2 : w.cell? ⟨pb, 2, none⟩ = some (.bool S.op) := by rw [K.blk.cell]; rfl
  have c9 : w.cell? ⟨pb, 9, none⟩ = some (.bool S.lost) := by rw [K.blk.cell]; rfl
  cases hh : hasB S.s i with
  | false =>
    rw [hh] at HH
    have HR := hide (show refP S i t = 41 from by simp [refP, hh])
    clear K hh
    go_enter Tryz.func136, Tryz.ntmps136
    go_wp2_with (go_at_call 126; refine (unhide HH).mono ?_; rintro e w' ⟨rfl, rfl⟩)
    go_ret
    rw [unhide HR]
    exact ⟨rfl, rfl⟩
  | true =>
    rw [hh] at HH
    have hi := hasB_i64 K.jk.sane hh
    have HRM := hide (K.room i hi)
    by_cases h19 : i < 19
    · have hd : decide (i < 19) = true := by simpa using h19
      have HR := hide (show refP S i t = 52 from by simp [refP, hh, h19])
      clear K hh hi HRM h19
      go_enter Tryz.func136, Tryz.ntmps136
      go_wp2_with (go_at_call 126; refine (unhide HH).mono ?_; rintro e w' ⟨rfl, rfl⟩)
      go_ret
      rw [unhide HR]
      exact ⟨rfl, rfl⟩
    · have hd : decide (i < 19) = false := by simpa using h19
      by_cases h256 : t.size = 256
      · have hd2 : ((t.size : Int) != 256) = false := by simp [h256]
        cases ho : S.op with
        | false =>
          rw [ho] at c2
          have HR := hide (show refP S i t = 61 from by simp [refP, hh, h19, h256, ho])
          clear K hh hi HRM h19 h256 ho
          go_enter Tryz.func136, Tryz.ntmps136
          go_wp2_with (go_at_call 126; refine (unhide HH).mono ?_; rintro e w' ⟨rfl, rfl⟩)
          go_ret
          rw [unhide HR]
          exact ⟨rfl, rfl⟩
        | true =>
          rw [ho] at c2
          cases hl : S.lost with
          | true =>
            rw [hl] at c9
            have HR := hide (show refP S i t = 2 from by simp [refP, hh, h19, h256, ho, hl])
            clear K hh hi HRM h19 h256 ho hl
            go_enter Tryz.func136, Tryz.ntmps136
            go_wp2_with (go_at_call 126; refine (unhide HH).mono ?_; rintro e w' ⟨rfl, rfl⟩)
            go_ret
            rw [unhide HR]
            exact ⟨rfl, rfl⟩
          | false =>
            rw [hl] at c9
            cases hr : roomB S i with
            | true =>
              rw [hr] at HRM
              have HR := hide (show refP S i t = 0 from by simp [refP, hh, h19, h256, ho, hl, hr])
              clear K hh hi h19 h256 ho hl hr
              go_enter Tryz.func136, Tryz.ntmps136
              go_wp2_with (first
                | (go_at_call 126; refine (unhide HH).mono ?_; rintro e w' ⟨rfl, rfl⟩)
                | (go_at_call 173; refine (unhide HRM).mono ?_; rintro e w' ⟨rfl, rfl⟩))
              go_ret
              rw [unhide HR]
              exact ⟨rfl, rfl⟩
            | false =>
              rw [hr] at HRM
              have HR := hide (show refP S i t = 62 from by simp [refP, hh, h19, h256, ho, hl, hr])
              clear K hh hi h19 h256 ho hl hr
              go_enter Tryz.func136, Tryz.ntmps136
              go_wp2_with (first
                | (go_at_call 126; refine (unhide HH).mono ?_; rintro e w' ⟨rfl, rfl⟩)
                | (go_at_call 173; refine (unhide HRM).mono ?_; rintro e w' ⟨rfl, rfl⟩))
              go_ret
              rw [unhide HR]
              exact ⟨rfl, rfl⟩
      · have hd2 : ((t.size : Int) != 256) = true := by simp; omega
        have HR := hide (show refP S i t = 42 from by simp [refP, hh, h19, h256])
        clear K hh hi HRM h19 h256
        go_enter Tryz.func136, Tryz.ntmps136
        go_wp2_with (go_at_call 126; refine (unhide HH).mono ?_; rintro e w' ⟨rfl, rfl⟩)
        go_ret
        rw [unhide HR]
        exact ⟨rfl, rfl⟩
def putS (S : PS) (i : Int) (t : ByteArray) : PS := { S with tx := txPut i t S.tx }
def writeP (S : PS) (i : Int) (t : ByteArray) : PS := if refP S i t = 0 then putS S i t else S
theorem refP_ok {S : PS} {i : Int} {t : ByteArray} (h : refP S i t = 0) : hasB S.s i = true ∧ 19 ≤ i ∧ t.size = 256 ∧ S.op = true ∧ S.lost = false ∧ roomB S i = true := by
  unfold refP at h
  split at h
  · omega
  split at h
  · omega
  split at h
  · omega
  split at h
  · omega
  split at h
  · omega
  split at h
  · rename_i h1 h2 h3 h4 h5 h6
    exact ⟨by simpa using h1, by omega, by omega, by simpa using h4, by simpa using h5, h6⟩
  · omega
theorem PKi.below {w0 w w' : World} {b jb pb : Nat} {S : PS} {X : Nat → Prop} {bw bv : Nat} {ov : Value} (K : PKi w0 w b jb pb S X bw bv ov) (hb : Below w.heap.size w w') : PKi w0 w' b jb pb S X bw bv ov := by
  have hO : Only (fun _ => False) w w' := Only.of_below hb
  exact ⟨K.jk.below hb, K.blk.only hO (fun q => q), K.tx.only hO (fun q => q), K.hn.only hO (fun q => q) (fun _ _ q => q), K.ne, K.lo1, K.lo2, K.lo3, K.xn, K.hk, K.kp, K.t16, K.tok⟩
theorem mem_put {k : Int} {s : ByteArray} {l : Tx} {p : Int × ByteArray} (h : p ∈ txPut k s l) : p = (k, s) ∨ p ∈ l := by
  rcases (mem_ins k s _ p).1 h with q | q
  · exact .inl q
  · exact .inr ((mem_del k l p).1 q).1
set_option maxRecDepth 100000 in
set_option maxHeartbeats 1000000 in
theorem pwrite_any {w0 w : World} {b jb pb : Nat} {S : PS} {X : Nat → Prop} (K : PK w0 w b jb pb S X) (i : Int) (t : ByteArray) (ht : t.size ≤ 9223372036854775807) :
    Calls Tryz.prog 80 #[.pointer (some ⟨pb, 0, none⟩), .int .i64 i, .string t] w fun e w' => e = .returned (.int .i64 (refP S i t)) ∧ PK w0 w' b jb pb (writeP S i t) X ∧ Only (fun x => ¬ X x) w w' := by
  obtain ⟨bw, bv, ov, K⟩ := K
  have HF0 := hide (prefusal_any K i t)
  by_cases he : refP S i t = 0
  · obtain ⟨g1, g2, g3, g4, g5, g6⟩ := refP_ok he
    have hi := hasB_i64 K.jk.sane g1
    have HCL := hide (fun W => sclone_any t W (by omega))
    have c3 : w.cell? ⟨pb, 3, none⟩ = some (.map (some bw)) := by rw [K.blk.cell]; rfl
    have HKB := hide (fun (w1 : World) (hb : Below w.heap.size w w1) => K.below hb)
    have HI := hide hi
    have HT := hide (show t.size ≤ maxLen from ht)
    have HLN := hide (show S.tx.length ≤ 1000000 from by have := K.t16; omega)
    have hlen : (txPut i t S.tx).length ≤ 16 := by
      rw [put_len K.tx.2]
      have := K.t16
      unfold roomB at g6
      cases hq : (txAt S.tx i).isSome with
      | true => simpa using this
      | false => rw [hq] at g6; simp at g6; simp; omega
    have HFI := hide (fun (w1 w2 : World) (hb : Below w.heap.size w w1) (K1 : PKi w0 w1 b jb pb S X bw bv ov) (hm2 : Mp w2 bw (txPut i t S.tx)) (hO2 : Only (fun x => x = bw) w1 w2) => show PK w0 w2 b jb pb (putS S i t) X ∧ Only (fun x => ¬ X x) w w2 from by
      have hpw : pb ≠ bw := K1.tx.not_blk K1.blk
      have r := K1.upd (hO2.mono (fun x _ q => .inr (.inl q))) ov (.inl rfl) (putS S i t) rfl rfl rfl rfl (K1.blk.only hO2 (fun q => hpw q)) hm2 (K1.hn.only hO2 (fun q => K1.ne q.symm) (fun x hx q => K1.tx.not_row K1.hn.ord (by rw [hx, q]))) K1.hk hlen (fun p hp => by
        rcases mem_put hp with q | q
        · subst q
          simp [hasB] at g1
          exact ⟨g2, g1.2, g3⟩
        · exact K.tok p q)
      exact ⟨r.1, (Only.of_below hb).trans r.2 (fun _ _ q => q)⟩)
    have HW := hide (show writeP S i t = putS S i t from by unfold writeP; rw [if_pos he])
    rw [he] at HF0 ⊢
    clear K g1 g2 g3 g4 g5 g6 hi hlen he
    go_enter Tryz.func80, Tryz.ntmps80
    go_wp2_with (go_at_call 136; refine (unhide HF0).mono ?_; rintro e w' ⟨rfl, rfl⟩)
    refine wp_region_held_drew (S := fun w' => w'.cell? ⟨pb, 3, none⟩ = some (.map (some bw))) (by kernel_rfl) c3 ?_
    intro hS
    refine wpAnyH_takeD 0 (some 15) (.pointer (some ⟨pb, 0, none⟩)) rfl rfl (by kernel_rfl) (by kernel_rfl) (by kernel_rfl) (fun _ _ _ h => h) (Or.inl ⟨by rfl, fun w hSw => by go_simp⟩) hS ?_
    simp only [Act.put, List.setIfInBounds_toArray, List.set_cons_zero, List.set_cons_succ]
    refine wpAnyH_takeD 1 (some 16) (.pointer (some ⟨pb, 0, none⟩)) rfl rfl (by kernel_rfl) (by kernel_rfl) (by kernel_rfl) (fun _ _ _ h => h) (Or.inl ⟨by rfl, fun w hSw => by go_simp⟩) hS ?_
    simp only [Act.put, List.setIfInBounds_toArray, List.set_cons_zero, List.set_cons_succ]
    refine wpAnyH_takeD 2 (some 17) (.pointer (some ⟨pb, 3, none⟩)) rfl rfl (by kernel_rfl) (by kernel_rfl) (by kernel_rfl) (fun _ _ _ h => h) (Or.inl ⟨by rfl, fun w hSw => by go_simp⟩) hS ?_
    simp only [Act.put, List.setIfInBounds_toArray, List.set_cons_zero, List.set_cons_succ]
    refine wpAnyH_takeD 3 (some 18) (.map (some bw)) rfl rfl (by kernel_rfl) (by kernel_rfl) (by kernel_rfl) (fun _ _ _ h => h) (Or.inl ⟨by rfl, fun w hSw => by have hq : _ = _ := hSw; go_simp⟩) hS ?_
    simp only [Act.put, List.setIfInBounds_toArray, List.set_cons_zero, List.set_cons_succ]
    refine wpAnyH_takeD 4 (some 19) (.int .i64 i) rfl rfl (by kernel_rfl) (by kernel_rfl) (by kernel_rfl) (fun _ _ _ h => h) (Or.inl ⟨by rfl, fun w hSw => by go_simp⟩) hS ?_
    simp only [Act.put, List.setIfInBounds_toArray, List.set_cons_zero, List.set_cons_succ]
    refine wpAnyH_takeD 5 (some 20) (.string t) rfl rfl (by kernel_rfl) (by kernel_rfl) (by kernel_rfl) (fun _ _ _ h => h) (Or.inl ⟨by rfl, fun w hSw => by go_simp⟩) hS ?_
    simp only [Act.put, List.setIfInBounds_toArray, List.set_cons_zero, List.set_cons_succ]
    refine wpAnyH_ready (rs := [6]) (by kernel_rfl) (by simp) ?_
    refine AllReadyH.cons rfl (fun K hK => ?_) AllReadyH.nil
    simp only [List.getElem_toArray, List.getElem_cons_succ, List.getElem_cons_zero]
    go_simp
    refine (unhide HCL _).mono ?_
    rintro e w1 ⟨rfl, hb1⟩
    have hB1 : Below w'.heap.size w' w1 := ((Below.refl _ w').drew).trans hb1
    have K1 := (unhide HKB) w1 hB1
    have c3' : w1.cell? ⟨pb, 3, none⟩ = some (.map (some bw)) := by rw [K1.blk.cell]; rfl
    refine hK.out _ _ c3' (fun hS => ?_)
    clear hK K
    obtain ⟨w2, hrun, hm2, hO2, hs2⟩ := K1.tx.put (unhide HI) t (unhide HT) (unhide HLN)
    have hpw : pb ≠ bw := K1.tx.not_blk K1.blk
    have c3'' : w2.cell? ⟨pb, 3, none⟩ = some (.map (some bw)) := by rw [(K1.blk.only hO2 (fun q => hpw q)).cell]; rfl
    have HF := hide ((unhide HFI) w1 w2 hB1 K1 hm2 hO2)
    clear K1 hm2 hO2 hs2 hpw c3' hB1 hb1
    refine wpAnyH_ready (rs := [7]) (by kernel_rfl) (by simp) ?_
    refine AllReadyH.cons rfl (fun K hK => ?_) AllReadyH.nil
    simp only [List.getElem_toArray, List.getElem_cons_succ, List.getElem_cons_zero]
    go_simp
    refine hK.out _ _ c3'' (fun hS => ?_)
    clear hK K
    refine wpAnyH_done (by kernel_rfl) ?_ _
    go_wp2
    go_ret
    rw [unhide HW]
    exact ⟨rfl, unhide HF⟩
  · have hne : (refP S i t != 0) = true := by simpa using he
    have HW := hide (show writeP S i t = S from by unfold writeP; rw [if_neg he])
    have HK := hide K
    clear K he ht
    generalize refP S i t = er at *
    go_enter Tryz.func80, Tryz.ntmps80
    go_wp2_with (go_at_call 136; refine (unhide HF0).mono ?_; rintro e w' ⟨rfl, rfl⟩)
    go_ret
    rw [unhide HW]
    exact ⟨rfl, (unhide HK).same⟩
end Go.Proofs.YtpcmifmgkccfnaaGreatDoor

namespace Go.Proofs.YtpcmifmgkccfnaaGreatDoor
open Go.RowKit Go.Maps Go.Sort Go.Shelf
theorem sortsA (m : Nat) : AnyZI.SortsIn Tryz.prog Tryz.sortedL_ren Fence.wide m :=
  ⟨fun blk off cap ss W hH hblk hsz => callsIn_wide.2 (Tryz.slices_Sort_int blk off cap ss W hH hblk hsz),
   fun p cap W => callsIn_wide.2 (Tryz.slices_Sort_int_none p cap W)⟩
set_option maxRecDepth 100000 in
set_option maxHeartbeats 1000000 in
/-- The numbers of a map, rising, in a new slice. -/
theorem dirty_any (w : World) (bm pb : Nat) (l : Tx) (hm : Mp w bm l) (hl : l.length ≤ 1000000) (c3 : w.cell? ⟨pb, 3, none⟩ = some (.map (some bm))) :
    Calls Tryz.prog 93 #[.pointer (some ⟨pb, 0, none⟩)] w fun e w' => ∃ v, e = .returned v ∧ w'.ownsRow w.heap.size 3 1 v (l.map (·.1)).length ((l.map (·.1)).map encZ) ∧ Below w.heap.size w w' := by
  refine (callsIn_wide (n := 6)).1 ?_
  have hbl := hm.lt
  have hsz : Maps.size (txD l) = l.length := txD_size l
  have hseq : SeqGives Fence.wide 2 Tryz.prog 175 #[.pointer (some ⟨w.heap.size, 0, none⟩)] encZ (fun ss => ss.Perm (intKeys (txD l))) (Maps.size (txD l)) (w.alloc (.cells #[.map (some bm)] 70)) :=
    AnyZI.keys_gives (ρ := Tryz.keysL_ren) { Tryz.keysL with } Fence.wide _ trivial rfl (by omega) w.heap.size bm l.length (txD l) _ (by simp) (by simp) (hm.1.alloc _)
  have cK : ∀ mb W, CallsIn Fence.wide 5 Tryz.prog 139 #[.map mb] W fun e w' => e = .returned (.func (.func 175) #[] #[.pointer (some ⟨W.heap.size, 0, none⟩)]) ∧ w' = W.alloc (.cells #[.map mb] 70) := fun mb W => AnyZI.keys_in Tryz.keysL Fence.wide 5 trivial rfl mb W
  have cS := AnyZI.sorted_in Tryz.sortedL Fence.wide 5 trivial trivial trivial trivial rfl (by omega) (sortsA _) (enters_of Tryz.func144 (by kernel_rfl) rfl) 175 #[.pointer (some ⟨w.heap.size, 0, none⟩)] trivial (enters_of Tryz.func175 (by kernel_rfl) rfl) _ _ (by rw [hsz]; unfold maxLen; omega) (by rw [hsz]; omega) _ hseq
  change CallsIn _ _ Tryz.prog 138 _ _ _ at cS
  have hfK : Fence.wide.fn 139 := trivial
  have hfS : Fence.wide.fn 138 := trivial
  have HS := hide hm.2
  clear hm hsz hseq hl
  refine callsIn_of_wp Tryz.func93 rfl trivial ?_ rfl
  simp only [Tryz.ntmps93, List.size_toArray, List.length_cons, List.length_nil, Nat.reduceAdd, Nat.reduceSub, Array.replicate_succ, Array.replicate_zero, List.push_toArray, List.append_toArray, List.nil_append, List.cons_append]
  gi_wp2_with (first
    | (gi_at_call 139; refine (cK _ _).mono ?_; rintro e w' ⟨rfl, rfl⟩)
    | (gi_at_call 138; refine cS.mono ?_; rintro e w' ⟨v, ss, rfl, hp, hrow, hnil, hb⟩))
  go_ret
  refine ⟨v, rfl, ?_, ((Below.refl _ w).alloc (Nat.le_refl _) _).trans (hb.mono (by simp))⟩
  have h1 := keys_sorted (unhide HS) hp
  have h2 : ss.length = (l.map (·.1)).length := by rw [← h1, List.length_mergeSort]
  rw [h1, h2] at hrow
  exact ownsRow_base_a hrow (by simp)
end Go.Proofs.YtpcmifmgkccfnaaGreatDoor

namespace Go.Proofs.YtpcmifmgkccfnaaGreatDoor
open Go.RowKit Go.Maps Go.Sort Go.Shelf
def WrI (w : World) (bm : Nat) (l : Tx) (dv : Value) (k : Nat) (u : Value) (wr : World) : Prop :=
  wr.ownsRow w.heap.size 111 2 u k (wrv (l.take k)) ∧ wr.ownsRow w.heap.size 3 1 dv l.length ((l.map (·.1)).map encZ) ∧ Below w.heap.size w wr ∧ Mp wr bm l
theorem at_nth {l : Tx} (h : Srt l) (k : Nat) (hk : k < l.length) : txAt l l[k].1 = some l[k].2 := (at_some h).2 (List.getElem_mem hk)
set_option maxRecDepth 100000 in
set_option maxHeartbeats 2000000 in
theorem writes_any (w : World) (bm pb : Nat) (l : Tx) (hm : Mp w bm l) (hl : l.length ≤ 1000) (hw : ∀ p ∈ l, I64k p.1) (cur : Array Value) (hB : Blk w pb cur 76) (c3 : cur[3]? = some (.map (some bm))) :
    Calls Tryz.prog 38 #[.pointer (some ⟨pb, 0, none⟩)] w fun e w' => ∃ v, e = .returned v ∧ w'.ownsRow w.heap.size 111 2 v l.length (wrv l) ∧ Below w.heap.size w w' := by
  have HD := hide (dirty_any w bm pb l hm (by omega) (by rw [hB.cell]; exact c3))
  have hpl := hB.lt
  have hml := hm.lt
  obtain ⟨i0, hi0, hz0, hz1, hz2⟩ := info_parts infoWj
  have HI := hide (And.intro hi0 (And.intro hz0 (And.intro hz1 hz2)))
  have HK := hide (And.intro hm (And.intro hB (And.intro c3 hw)))
  clear hi0 hz0 hz1 hz2 hm hB c3 hw
  go_enter Tryz.func38, Tryz.ntmps38
  go_wp2_with fail
  refine (unhide HD).mono ?_
  rintro e w1 ⟨dv, rfl, hr, hb⟩
  rw [List.length_map] at hr
  have X0 := hide (show WrI w bm l dv 0 (.slice none 0 0) w1 from ⟨World.ownsRow_nil _ _ _ _, hr, hb, (unhide HK).1.below hb hml⟩)
  obtain ⟨dp, dc, hdv, _⟩ := row_form hr
  subst hdv
  clear HD hr hb
  go_wp2
  go_loopw [3, 9] (fun u i wr => ∃ k : Nat, k ≤ l.length ∧ i = .int .i64 (k : Int) ∧ WrI w bm l (.slice dp l.length dc) k u wr) (fun _ i _ => l.length - (intOf i).toNat)
  case atStart => exact ⟨0, by omega, rfl, unhide X0⟩
  case round =>
    obtain ⟨k, hk, rfl, h1, h2, h3, h4⟩ := hrel
    obtain ⟨wo, rfl⟩ : ∃ wo, wo = wr := ⟨_, rfl⟩
    clear X0
    obtain ⟨pv, cv, rfl, hcv⟩ := row_form h1
    by_cases hkl : k < l.length
    · have hkl' : (k : Int) < (l.length : Int) := by omega
      obtain ⟨z, hz⟩ : ∃ z, l[k].1 = z := ⟨_, rfl⟩
      obtain ⟨t, ht⟩ : ∃ t, l[k].2 = t := ⟨_, rfl⟩
      have hzk : I64k z := by rw [← hz]; exact (unhide HK).2.2.2 _ (List.getElem_mem hkl)
      have hat : txAt l z = some t := by rw [← hz, ← ht]; exact at_nth h4.2 k hkl
      have hlk := (h4.look hzk).2
      rw [hat] at hlk
      simp only [Option.getD_some] at hlk
      rcases h2.2 with ⟨q, q0⟩ | ⟨g, cap, cu, q, hgb0, hgb, q1, q2, q3, q4⟩
      · omega
      injection q with q5 q6 q7
      subst q5 q7
      have cz : wo.cell? ⟨g, k, none⟩ = some (.int .i64 z) := by
        rw [(show Blk wo g cu 3 from hgb).cell, ← Array.getElem?_toList]
        have e1 : (cu.toList.take (l.length * 1))[k]? = ((l.map (·.1)).map encZ)[k]? := by rw [q4]
        rw [List.getElem?_take_of_lt (by omega)] at e1
        rw [e1, ← hz]
        simp [hkl]
      have cp : wo.cell? ⟨pb, 3, none⟩ = some (.map (some bm)) := by
        have := (unhide HK).2.1.below h3 hpl
        rw [this.cell]; exact (unhide HK).2.2.1
      have hone : wrv (l.take (k + 1)) = wrv (l.take k) ++ wrv [(z, t)] := by
        rw [← wrv_app, List.take_succ_eq_append_getElem hkl, ← hz, ← ht]
      have HRA := hide (show (wo.alloc (.cells #[.int .i64 z, .string t] 111)).ownsRow w.heap.size 111 2 (.slice pv k cv) k (wrv (l.take k)) from h1.alloc _)
      have HXS := hide (show w.heap.size ≤ (wo.alloc (.cells #[.int .i64 z, .string t] 111)).heap.size from by have := h3.size; simp; omega)
      have hgn : (Value.slice pv k cv).ownBlock ≠ some g := (show Blk wo g cu 3 from hgb).not_row (by decide) h1
      have HX := hide (And.intro h2 (And.intro h3 (And.intro h4 (And.intro hone hgn))))
      clear h1 h2 h3 h4 hone hgn hgb q1 q2 q3 q4 q6 hat hz ht hzk hgb0
      generalize hln : l.length = n at *
      have i0' : (0 : Int) ≤ (k : Int) := by omega
      go_wp2_with (refine wpList_append_own _ rfl (.tmp 13) (.tmp 22) 61 rfl w.heap.size 111 i0 (.agg #[.int .i64 0, .string ⟨#[]⟩]) 2 24 Tryz.underlying61 (unhide HI).1 (unhide HI).2.1 (unhide HI).2.2.1 (unhide HI).2.2.2 rfl (by decide) _ k (wrv (l.take k)) rfl (unhide HRA) ⟨wo.heap.size, 0, none⟩ 1 1 (wrv [(z, t)]) rfl rfl (fun q u hu => news_two wo 111 _ _ q u hu) (by simp [wrv, Value.oneCell']) (by unfold maxLen; omega) (by omega) (unhide HXS) ?_)
      intro v5 x5 ho5 hg5 _
      obtain ⟨h2, h3, h4, hone, hgn⟩ := unhide HX
      have hOa : Only (fun _ => False) wo (wo.alloc (.cells #[.int .i64 z, .string t] 111)) := (Only.refl _ _).alloc _
      have hO5 : Only (fun q => (Value.slice pv k cv).ownBlock = some q) (wo.alloc (.cells #[.int .i64 z, .string t] 111)) x5 := (Only.refl _ _).grown hg5 (fun q _ e => e)
      have hnr : ∀ q, (Value.slice pv k cv).ownBlock = some q → w.heap.size ≤ q := fun q hq => ((unhide HRA).lt q hq).1
      have HRR := hide (show WrI w bm l (.slice (some ⟨g, 0, none⟩) n dc) (k + 1) v5 x5 from by
        refine ⟨by rw [hone]; simpa using ho5, ?_, (h3.alloc h3.size _).grown hg5 (unhide HXS) (fun q hq => hnr q hq), (h4.only hOa (fun q => q)).only hO5 (fun q => by have := hnr bm q; omega)⟩
        rw [hln]
        exact owns_only (owns_only h2 hOa (fun _ _ q => q)) hO5 (fun x hx q => hgn (by rw [q]; simpa [Value.ownBlock] using hx.symm)))
      clear ho5 hg5 hO5 hOa hnr HRA h2 h3 h4 hone hgn HX
      go_wp2
      go_roundw
      case rel => exact ⟨k + 1, by omega, by go_num, unhide HRR⟩
      case measure => simp [intOf]; omega
    · have hke : l.length = k := by omega
      have hkl' : ¬ ((k : Int) < (l.length : Int)) := by omega
      rw [List.take_of_length_le (by omega)] at h1
      have HR := hide (And.intro h1 h3)
      have HE := hide hke
      clear h1 h2 h3 h4 hke
      go_wp2
      go_ret
      rw [unhide HE]
      exact ⟨_, rfl, unhide HR⟩
end Go.Proofs.YtpcmifmgkccfnaaGreatDoor
