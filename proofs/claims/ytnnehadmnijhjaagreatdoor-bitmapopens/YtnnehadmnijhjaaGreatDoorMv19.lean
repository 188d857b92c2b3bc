import Derived.Test.YtnnehadmnijhjaaGreatDoorMv18
import Derived.Test.YtnnehadmnijhjaaGreatDoorMv07
import Derived.Deep.RegionHeld3
namespace Go.Proofs.YtnnehadmnijhjaaGreatDoor
open Go.RowKit Go.Maps Go.Sort Go.Shelf
theorem Mp.look_size {w : World} {b : Nat} {l : Tx} (h : Mp w b l) {k : Int} (hk : I64k k) : ((txAt l k).getD ByteArray.empty).size ≤ maxLen := by
  have hz0 : plainElem (H := Unit) Tryz.prog 9 (.string ByteArray.empty) = some (litS ByteArray.empty, []) := plainElem_string Tryz.underlying9 (by decide)
  obtain ⟨v, ps, hrun, hv⟩ := h.1.lookup law3 Tryz.underlying69 (zero9 w) hz0 (key3 hk)
  have h2 := (h.look hk).2
  rw [hrun] at h2
  injection h2 with h2 _
  subst h2
  obtain ⟨c, e, _, hc⟩ := plainElem_string_inv Tryz.underlying9 hv
  injection e with e
  rw [e]; exact hc
def inc (x : Int) : Int := IntKind.i64.wrap (x + 1)
def missS (S : PS) (i : Int) : PS := { S with mis := inc S.mis, h := hLay S.keep i (readT S.s i) S.h }
def hitS (S : PS) (i : Int) (t : ByteArray) : PS := { S with hits := inc S.hits, h := hLay S.keep i t S.h }
def lostS (S : PS) : PS := { S with lost := true }
/-- What Read answers and leaves. -/
def readP (S : PS) (i : Int) : ByteArray × Int × PS :=
  if hasB S.s i = false then (⟨#[]⟩, 41, S)
  else if S.lost then (⟨#[]⟩, 2, S)
  else match txAt S.tx i with
    | some t => (t, 0, S)
    | none => match txAt S.h i with
      | some t => (t, 0, hitS S i t)
      | none => if readE S.s i = 0 then (readT S.s i, 0, missS S i) else (⟨#[]⟩, readE S.s i, lostS S)
theorem hasB_i64 {s : DSt} (hs : Sane s) {i : Int} (h : hasB s i = true) : I64k i := by
  have := hs.cap
  simp [hasB] at h
  exact ⟨by omega, by omega⟩
theorem Hb.pf {pb bw bv : Nat} {ov : Value} {x : Nat} (h : Hb pb bv ov x) : Pf pb bw bv ov x := by
  rcases h with q | q | q
  · exact .inl q
  · exact .inr (.inr (.inl q))
  · exact .inr (.inr (.inr q))
theorem PKi.lay {w0 w : World} {b jb pb : Nat} {S : PS} {X : Nat → Prop} {bw bv : Nat} {ov : Value} (K : PKi w0 w b jb pb S X bw bv ov) (k : Int) (hk : I64k k) (s : ByteArray) (hs : s.size ≤ maxLen) :
    Calls Tryz.prog 52 #[.pointer (some ⟨pb, 4, none⟩), .int .i64 k, .string s] w fun e w' => e = .returned (.tuple #[]) ∧ PK w0 w' b jb pb { S with h := hLay S.keep k s S.h } X ∧ Only (fun x => ¬ X x) w w' := by
  refine (hlay_any w w0.heap.size pb b jb S.op bw S.keep bv ov S.hits S.mis S.lost S.h K.blk K.hn K.jk.bel.size k hk s hs K.hk K.kp).mono ?_
  rintro e w' ⟨rfl, ov', r1, r2, r3, r4⟩
  have hp1 : ¬ Hb pb bv ov bw := by
    rintro (q | q | q)
    · exact K.tx.not_blk K.blk q.symm
    · exact K.ne q
    · exact K.tx.not_row K.hn.ord q
  exact ⟨rfl, K.upd (r3.mono (fun x _ q => q.pf)) ov' r4 { S with h := hLay S.keep k s S.h } rfl rfl rfl rfl r1 (K.tx.only r3 hp1) r2 (hLay_len _ _ _ _) K.t16 K.tok⟩
set_option maxRecDepth 100000 in
set_option maxHeartbeats 1000000 in
theorem fetch_any {w0 w : World} {b jb pb : Nat} {S : PS} {X : Nat → Prop} {bw bv : Nat} {ov : Value} (K : PKi w0 w b jb pb S X bw bv ov) (i : Int) (hi : I64k i) (hT : (readT S.s i).size ≤ maxLen) :
    Calls Tryz.prog 112 #[.pointer (some ⟨pb, 0, none⟩), .int .i64 i] w fun e w' => e = .returned (.tuple #[.string (if readE S.s i = 0 then readT S.s i else ⟨#[]⟩), .int .i64 (readE S.s i)]) ∧ PK w0 w' b jb pb (if readE S.s i = 0 then missS S i else lostS S) X ∧ Only (fun x => ¬ X x) w w' := by
  obtain ⟨v, hd⟩ := K.jk.dk
  have HR := hide (read_any w _ b v S.s hd K.jk.sane.same i)
  have c0 : w.cell? ⟨pb, 0, none⟩ = some (.pointer (some ⟨b, 0, none⟩)) := by rw [K.blk.cell]; rfl
  have c8 : w.cell? ⟨pb, 8, none⟩ = some (.int .i64 S.mis) := by rw [K.blk.cell]; rfl
  have c9 : w.cell? ⟨pb, 9, none⟩ = some (.bool S.lost) := by rw [K.blk.cell]; rfl
  have f8 : w.frozen? ⟨pb, 8, none⟩ = false := K.blk.frozen 8
  have f9 : w.frozen? ⟨pb, 9, none⟩ = false := K.blk.frozen 9
  by_cases he : readE S.s i = 0
  · rw [if_pos he, if_pos he]
    rw [he] at HR ⊢
    obtain ⟨K1, hO1⟩ := K.store 8 (.int .i64 (inc S.mis)) { S with mis := inc S.mis } rfl rfl rfl rfl rfl rfl rfl
    have HL := hide (K1.lay i hi (readT S.s i) hT)
    have HI := hide (show IntKind.i64.wrap (S.mis + 1) = inc S.mis from rfl)
    have HO := hide hO1
    have HM := hide (show ({ ({ S with mis := inc S.mis } : PS) with h := hLay S.keep i (readT S.s i) S.h } : PS) = missS S i from rfl)
    clear K K1 hO1 hd hT he hi
    generalize readT S.s i = t at *
    obtain ⟨mi, hmi⟩ : ∃ m, inc S.mis = m := ⟨_, rfl⟩
    rw [hmi] at HI HO HL
    have hwr := unhide HI
    clear HI
    go_enter Tryz.func112, Tryz.ntmps112
    go_wp2_with (first
      | (go_at_call 69; refine (unhide HR).mono ?_; rintro e w' ⟨rfl, rfl⟩)
      | (go_at_call 52; refine (unhide HL).mono ?_; rintro e w' ⟨rfl, hk, ho⟩))
    go_ret2
    refine ⟨rfl, ?_, (unhide HO).trans ho (fun _ _ q => q)⟩
    rw [← unhide HM, hmi]
    exact hk
  · rw [if_neg he, if_neg he]
    have hne : (readE S.s i != 0) = true := by simpa using he
    obtain ⟨K1, hO1⟩ := K.store 9 (.bool true) (lostS S) rfl rfl rfl rfl rfl rfl rfl
    have HL := hide (And.intro (show PK w0 _ b jb pb (lostS S) X from ⟨bw, bv, ov, K1⟩) hO1)
    clear K K1 hO1 hd hT he hi
    generalize readT S.s i = t at *
    generalize readE S.s i = er at *
    go_enter Tryz.func112, Tryz.ntmps112
    go_wp2_with (go_at_call 69; refine (unhide HR).mono ?_; rintro e w' ⟨rfl, rfl⟩)
    go_ret2
    exact ⟨rfl, unhide HL⟩
set_option maxRecDepth 100000 in
set_option maxHeartbeats 1000000 in
theorem pread_any {w0 w : World} {b jb pb : Nat} {S : PS} {X : Nat → Prop} (K : PK w0 w b jb pb S X) (i : Int) (hT : (readT S.s i).size ≤ maxLen) :
    Calls Tryz.prog 74 #[.pointer (some ⟨pb, 0, none⟩), .int .i64 i] w fun e w' => e = .returned (.tuple #[.string (readP S i).1, .int .i64 (readP S i).2.1]) ∧ PK w0 w' b jb pb (readP S i).2.2 X ∧ Only (fun x => ¬ X x) w w' := by
  obtain ⟨bw, bv, ov, K⟩ := K
  have HH := hide (K.has i)
  cases hh : hasB S.s i with
  | false =>
    rw [hh] at HH
    have HR := hide (show readP S i = (⟨#[]⟩, 41, S) from by unfold readP; rw [hh]; rfl)
    have HK := hide K
    clear K hh hT
    go_enter Tryz.func74, Tryz.ntmps74
    go_wp2_with (go_at_call 110; refine (unhide HH).mono ?_; rintro e w' ⟨rfl, rfl⟩)
    go_ret2
    rw [unhide HR]
    exact ⟨rfl, (unhide HK).same⟩
  | true =>
    rw [hh] at HH
    have hi := hasB_i64 K.jk.sane hh
    have c9 : w.cell? ⟨pb, 9, none⟩ = some (.bool S.lost) := by rw [K.blk.cell]; rfl
    have c3 : w.cell? ⟨pb, 3, none⟩ = some (.map (some bw)) := by rw [K.blk.cell]; rfl
    cases hl : S.lost with
    | true =>
      rw [hl] at c9
      have HR := hide (show readP S i = (⟨#[]⟩, 2, S) from by unfold readP; rw [hh, hl]; rfl)
      have HK := hide K
      clear K hh hT hl hi
      go_enter Tryz.func74, Tryz.ntmps74
      go_wp2_with (go_at_call 110; refine (unhide HH).mono ?_; rintro e w' ⟨rfl, rfl⟩)
      go_ret2
      rw [unhide HR]
      exact ⟨rfl, (unhide HK).same⟩
    | false =>
      rw [hl] at c9
      have hlk := (K.tx.look hi).1
      cases ht : txAt S.tx i with
      | some t =>
        rw [ht] at hlk
        simp only [Option.getD_some, Option.isSome_some] at hlk
        have HR := hide (show readP S i = (t, 0, S) from by unfold readP; rw [hh, hl, ht]; rfl)
        have HK := hide K
        clear K hh hT hl hi ht
        go_enter Tryz.func74, Tryz.ntmps74
        go_wp2_with (go_at_call 110; refine (unhide HH).mono ?_; rintro e w' ⟨rfl, rfl⟩)
        go_ret2
        rw [unhide HR]
        exact ⟨rfl, (unhide HK).same⟩
      | none =>
        rw [ht] at hlk
        simp only [Option.getD_none, Option.isSome_none] at hlk
        have HF := hide (hfind_any w _ pb b jb S.op bw S.keep bv ov S.hits S.mis S.lost S.h K.blk K.hn i hi)
        cases hf : txAt S.h i with
        | some t =>
          rw [hf] at HF
          simp only [Option.getD_some, Option.isSome_some] at HF
          have hts : t.size ≤ maxLen := by
            obtain ⟨L, hp, hm⟩ := K.hn.mp
            have := hm.look_size hi
            rw [← at_perm hm.2.nd hp i, hf] at this
            exact this
          have HR := hide (show readP S i = (t, 0, hitS S i t) from by unfold readP; rw [hh, hl, ht]; simp only [hf]; rfl)
          have c7 : w.cell? ⟨pb, 7, none⟩ = some (.int .i64 S.hits) := by rw [K.blk.cell]; rfl
          have f7 : w.frozen? ⟨pb, 7, none⟩ = false := K.blk.frozen 7
          obtain ⟨K1, hO1⟩ := K.store 7 (.int .i64 (inc S.hits)) { S with hits := inc S.hits } rfl rfl rfl rfl rfl rfl rfl
          have HL := hide (K1.lay i hi t hts)
          have HO := hide hO1
          have HM := hide (show ({ ({ S with hits := inc S.hits } : PS) with h := hLay S.keep i t S.h } : PS) = hitS S i t from rfl)
          obtain ⟨mi, hmi⟩ : ∃ m, inc S.hits = m := ⟨_, rfl⟩
          have hwr : IntKind.i64.wrap (S.hits + 1) = mi := hmi
          rw [hmi] at HO HL
          clear K K1 hO1 hh hT hl hi ht hf hts
          go_enter Tryz.func74, Tryz.ntmps74
          go_wp2_with (first
            | (go_at_call 110; refine (unhide HH).mono ?_; rintro e w' ⟨rfl, rfl⟩)
            | (go_at_call 111; refine (unhide HF).mono ?_; rintro e w' ⟨rfl, rfl⟩)
            | (go_at_call 52; refine (unhide HL).mono ?_; rintro e w' ⟨rfl, hk, ho⟩))
          go_ret2
          rw [unhide HR]
          refine ⟨rfl, ?_, (unhide HO).trans ho (fun _ _ q => q)⟩
          show PK _ _ _ _ _ (hitS S i t) _
          rw [← unhide HM, hmi]
          exact hk
        | none =>
          rw [hf] at HF
          simp only [Option.getD_none, Option.isSome_none] at HF
          have HFE := hide (fetch_any K i hi hT)
          have HR := hide (show readP S i = (if readE S.s i = 0 then readT S.s i else ⟨#[]⟩, readE S.s i, if readE S.s i = 0 then missS S i else lostS S) from by
            unfold readP
            rw [hh, hl, ht]
            simp only [hf]
            by_cases h0 : readE S.s i = 0
            · simp [h0]
            · simp [h0])
          clear K hh hT hl hi ht hf
          generalize (if readE S.s i = 0 then readT S.s i else ⟨#[]⟩) = t at *
          generalize readE S.s i = er at *
          go_enter Tryz.func74, Tryz.ntmps74
          go_wp2_with (first
            | (go_at_call 110; refine (unhide HH).mono ?_; rintro e w' ⟨rfl, rfl⟩)
            | (go_at_call 111; refine (unhide HF).mono ?_; rintro e w' ⟨rfl, rfl⟩)
            | (go_at_call 112; refine (unhide HFE).mono ?_; rintro e w' ⟨rfl, hk, ho⟩))
          go_ret2
          rw [unhide HR]
          exact ⟨rfl, hk, ho⟩
end Go.Proofs.YtnnehadmnijhjaaGreatDoor

namespace Go.Proofs.YtnnehadmnijhjaaGreatDoor
open Go.RowKit Go.Maps Go.Sort Go.Shelf
def roomB (S : PS) (i : Int) : Bool := (txAt S.tx i).isSome || decide ((S.tx.length : Int) < 16)
theorem PKi.room {w0 w : World} {b jb pb : Nat} {S : PS} {X : Nat → Prop} {bw bv : Nat} {ov : Value} (K : PKi w0 w b jb pb S X bw bv ov) (i : Int) (hi : I64k i) :
    Calls Tryz.prog 154 #[.pointer (some ⟨pb, 0, none⟩), .int .i64 i] w fun e w' => e = .returned (.bool (roomB S i)) ∧ w' = w := by
  have c3 : w.cell? ⟨pb, 3, none⟩ = some (.map (some bw)) := by rw [K.blk.cell]; rfl
  have hlk := (K.tx.look hi).1
  have hln := fun ty => K.tx.len ty
  unfold roomB
  clear K hi
  generalize (txAt S.tx i).getD ByteArray.empty = t at *
  generalize (S.tx.length : Int) = n at *
  cases hq : (txAt S.tx i).isSome with
  | true =>
    rw [hq] at hlk
    clear hq
    go_enter Tryz.func154, Tryz.ntmps154
    go_wp2
    go_ret
    exact ⟨by simp, rfl⟩
  | false =>
    rw [hq] at hlk
    clear hq
    go_enter Tryz.func154, Tryz.ntmps154
    go_wp2
    go_ret
    exact ⟨by simp, rfl⟩
/-- Why a sector may not be written. -/
def refP (S : PS) (i : Int) (t : ByteArray) : Int :=
  if hasB S.s i = false then 41 else if i < 19 then 52 else if t.size ≠ 256 then 42 else if S.op = false then 61 else if S.lost then 2 else if roomB S i then 0 else 62
set_option maxRecDepth 100000 in
set_option maxHeartbeats 1000000 in
theorem prefusal_any {w0 w : World} {b jb pb : Nat} {S : PS} {X : Nat → Prop} {bw bv : Nat} {ov : Value} (K : PKi w0 w b jb pb S X bw bv ov) (i : Int) (t : ByteArray) :
    Calls Tryz.prog 130 #[.pointer (some ⟨pb, 0, none⟩), .int .i64 i, .string t] w fun e w' => e = .returned (.int .i64 (refP S i t)) ∧ w' = w := by
  have HH := hide (K.has i)
  have c2 : w.cell? ⟨pb, 2, none⟩ = some (.bool S.op) := by rw [K.blk.cell]; rfl
  have c9 : w.cell? ⟨pb, 9, none⟩ = some (.bool S.lost) := by rw [K.blk.cell]; rfl
  cases hh : hasB S.s i with
  | false =>
    rw [hh] at HH
    have HR := hide (show refP S i t = 41 from by simp [refP, hh])
    clear K hh
    go_enter Tryz.func130, Tryz.ntmps130
    go_wp2_with (go_at_call 110; refine (unhide HH).mono ?_; rintro e w' ⟨rfl, rfl⟩)
    go_ret
    rw [unhide HR]
    exact ⟨rfl, rfl⟩
  | true =>
    rw [hh] at HH
    have hi := hasB_i64 K.jk.sane hh
    have HRM := hide (K.room i hi)
    by_cases h19 : i < 19
    · have hd : decide (i < 19) = true := by simpa using h19
      have HR := hide (show refP S i t = 52 from by simp [refP, hh, h19])
      clear K hh hi HRM h19
      go_enter Tryz.func130, Tryz.ntmps130
      go_wp2_with (go_at_call 110; refine (unhide HH).mono ?_; rintro e w' ⟨rfl, rfl⟩)
      go_ret
      rw [unhide HR]
      exact ⟨rfl, rfl⟩
    · have hd : decide (i < 19) = false := by simpa using h19
      by_cases h256 : t.size = 256
      · have hd2 : ((t.size : Int) != 256) = false := by simp [h256]
        cases ho : S.op with
        | false =>
          rw [ho] at c2
          have HR := hide (show refP S i t = 61 from by simp [refP, hh, h19, h256, ho])
          clear K hh hi HRM h19 h256 ho
          go_enter Tryz.func130, Tryz.ntmps130
          go_wp2_with (go_at_call 110; refine (unhide HH).mono ?_; rintro e w' ⟨rfl, rfl⟩)
          go_ret
          rw [unhide HR]
          exact ⟨rfl, rfl⟩
        | true =>
          rw [ho] at c2
          cases hl : S.lost with
          | true =>
            rw [hl] at c9
            have HR := hide (show refP S i t = 2 from by simp [refP, hh, h19, h256, ho, hl])
            clear K hh hi HRM h19 h256 ho hl
            go_enter Tryz.func130, Tryz.ntmps130
            go_wp2_with (go_at_call 110; refine (unhide HH).mono ?_; rintro e w' ⟨rfl, rfl⟩)
            go_ret
            rw [unhide HR]
            exact ⟨rfl, rfl⟩
          | false =>
            rw [hl] at c9
            cases hr : roomB S i with
            | true =>
              rw [hr] at HRM
              have HR := hide (show refP S i t = 0 from by simp [refP, hh, h19, h256, ho, hl, hr])
              clear K hh hi h19 h256 ho hl hr
              go_enter Tryz.func130, Tryz.ntmps130
              go_wp2_with (first
                | (go_at_call 110; refine (unhide HH).mono ?_; rintro e w' ⟨rfl, rfl⟩)
                | (go_at_call 154; refine (unhide HRM).mono ?_; rintro e w' ⟨rfl, rfl⟩))
              go_ret
              rw [unhide HR]
              exact ⟨rfl, rfl⟩
            | false =>
              rw [hr] at HRM
              have HR := hide (show refP S i t = 62 from by simp [refP, hh, h19, h256, ho, hl, hr])
              clear K hh hi h19 h256 ho hl hr
              go_enter Tryz.func130, Tryz.ntmps130
              go_wp2_with (first
                | (go_at_call 110; refine (unhide HH).mono ?_; rintro e w' ⟨rfl, rfl⟩)
                | (go_at_call 154; refine (unhide HRM).mono ?_; rintro e w' ⟨rfl, rfl⟩))
              go_ret
              rw [unhide HR]
              exact ⟨rfl, rfl⟩
      · have hd2 : ((t.size : Int) != 256) = true := by simp; omega
        have HR := hide (show refP S i t = 42 from by simp [refP, hh, h19, h256])
        clear K hh hi HRM h19 h256
        go_enter Tryz.func130, Tryz.ntmps130
        go_wp2_with (go_at_call 110; refine (unhide HH).mono ?_; rintro e w' ⟨rfl, rfl⟩)
        go_ret
        rw [unhide HR]
        exact ⟨rfl, rfl⟩
def putS (S : PS) (i : Int) (t : ByteArray) : PS := { S with tx := txPut i t S.tx }
def writeP (S : PS) (i : Int) (t : ByteArray) : PS := if refP S i t = 0 then putS S i t else S
theorem refP_ok {S : PS} {i : Int} {t : ByteArray} (h : refP S i t = 0) : hasB S.s i = true ∧ 19 ≤ i ∧ t.size = 256 ∧ S.op = true ∧ S.lost = false ∧ roomB S i = true := by
  unfold refP at h
  split at h
  · omega
  split at h
  · omega
  split at h
  · omega
  split at h
  · omega
  split at h
  · omega
  split at h
  · rename_i h1 h2 h3 h4 h5 h6
    exact ⟨by simpa using h1, by omega, by omega, by simpa using h4, by simpa using h5, h6⟩
  · omega
theorem PKi.below {w0 w w' : World} {b jb pb : Nat} {S : PS} {X : Nat → Prop} {bw bv : Nat} {ov : Value} (K : PKi w0 w b jb pb S X bw bv ov) (hb : Below w.heap.size w w') : PKi w0 w' b jb pb S X bw bv ov := by
  have hO : Only (fun _ => False) w w' := Only.of_below hb
  exact ⟨K.jk.below hb, K.blk.only hO (fun q => q), K.tx.only hO (fun q => q), K.hn.only hO (fun q => q) (fun _ _ q => q), K.ne, K.lo1, K.lo2, K.lo3, K.xn, K.hk, K.kp, K.t16, K.tok⟩
theorem mem_put {k : Int} {s : ByteArray} {l : Tx} {p : Int × ByteArray} (h : p ∈ txPut k s l) : p = (k, s) ∨ p ∈ l := by
  rcases (mem_ins k s _ p).1 h with q | q
  · exact .inl q
  · exact .inr ((mem_del k l p).1 q).1
set_option maxRecDepth 100000 in
set_option maxHeartbeats 1000000 in
theorem pwrite_any {w0 w : World} {b jb pb : Nat} {S : PS} {X : Nat → Prop} (K : PK w0 w b jb pb S X) (i : Int) (t : ByteArray) (ht : t.size ≤ 9223372036854775807) :
    Calls Tryz.prog 90 #[.pointer (some ⟨pb, 0, none⟩), .int .i64 i, .string t] w fun e w' => e = .returned (.int .i64 (refP S i t)) ∧ PK w0 w' b jb pb (writeP S i t) X ∧ Only (fun x => ¬ X x) w w' := by
  obtain ⟨bw, bv, ov, K⟩ := K
  have HF0 := hide (prefusal_any K i t)
  by_cases he : refP S i t = 0
  · obtain ⟨g1, g2, g3, g4, g5, g6⟩ := refP_ok he
    have hi := hasB_i64 K.jk.sane g1
    have HCL := hide (fun W => sclone_any t W (by omega))
    have c3 : w.cell? ⟨pb, 3, none⟩ = some (.map (some bw)) := by rw [K.blk.cell]; rfl
    have HKB := hide (fun (w1 : World) (hb : Below w.heap.size w w1) => K.below hb)
    have HI := hide hi
    have HT := hide (show t.size ≤ maxLen from ht)
    have HLN := hide (show S.tx.length ≤ 1000000 from by have := K.t16; omega)
    have hlen : (txPut i t S.tx).length ≤ 16 := by
      rw [put_len K.tx.2]
      have := K.t16
      unfold roomB at g6
      cases hq : (txAt S.tx i).isSome with
      | true => simpa using this
      | false => rw [hq] at g6; simp at g6; simp; omega
    have HFI := hide (fun (w1 w2 : World) (hb : Below w.heap.size w w1) (K1 : PKi w0 w1 b jb pb S X bw bv ov) (hm2 : Mp w2 bw (txPut i t S.tx)) (hO2 : Only (fun x => x = bw) w1 w2) => show PK w0 w2 b jb pb (putS S i t) X ∧ Only (fun x => ¬ X x) w w2 from by
      have hpw : pb ≠ bw := K1.tx.not_blk K1.blk
      have r := K1.upd (hO2.mono (fun x _ q => .inr (.inl q))) ov (.inl rfl) (putS S i t) rfl rfl rfl rfl (K1.blk.only hO2 (fun q => hpw q)) hm2 (K1.hn.only hO2 (fun q => K1.ne q.symm) (fun x hx q => K1.tx.not_row K1.hn.ord (by rw [hx, q]))) K1.hk hlen (fun p hp => by
        rcases mem_put hp with q | q
        · subst q
          simp [hasB] at g1
          exact ⟨g2, g1.2, g3⟩
        · exact K.tok p q)
      exact ⟨r.1, (Only.of_below hb).trans r.2 (fun _ _ q => q)⟩)
    have HW := hide (show writeP S i t = putS S i t from by unfold writeP; rw [if_pos he])
    rw [he] at HF0 ⊢
    clear K g1 g2 g3 g4 g5 g6 hi hlen he
    go_enter Tryz.func90, Tryz.ntmps90
    go_wp2_with (go_at_call 130; refine (unhide HF0).mono ?_; rintro e w' ⟨rfl, rfl⟩)
    refine wp_region_held_drew (S := fun w' => w'.cell? ⟨pb, 3, none⟩ = some (.map (some bw))) (by kernel_rfl) c3 ?_
    intro hS
    refine wpAnyH_takeD 0 (some 15) (.pointer (some ⟨pb, 0, none⟩)) rfl rfl (by kernel_rfl) (by kernel_rfl) (by kernel_rfl) (fun _ _ _ h => h) (Or.inl ⟨by rfl, fun w hSw => by go_simp⟩) hS ?_
    simp only [Act.put, List.setIfInBounds_toArray, List.set_cons_zero, List.set_cons_succ]
    refine wpAnyH_takeD 1 (some 16) (.pointer (some ⟨pb, 0, none⟩)) rfl rfl (by kernel_rfl) (by kernel_rfl) (by kernel_rfl) (fun _ _ _ h => h) (Or.inl ⟨by rfl, fun w hSw => by go_simp⟩) hS ?_
    simp only [Act.put, List.setIfInBounds_toArray, List.set_cons_zero, List.set_cons_succ]
    refine wpAnyH_takeD 2 (some 17) (.pointer (some ⟨pb, 3, none⟩)) rfl rfl (by kernel_rfl) (by kernel_rfl) (by kernel_rfl) (fun _ _ _ h => h) (Or.inl ⟨by rfl, fun w hSw => by go_simp⟩) hS ?_
    simp only [Act.put, List.setIfInBounds_toArray, List.set_cons_zero, List.set_cons_succ]
    refine wpAnyH_takeD 3 (some 18) (.map (some bw)) rfl rfl (by kernel_rfl) (by kernel_rfl) (by kernel_rfl) (fun _ _ _ h => h) (Or.inl ⟨by rfl, fun w hSw => by have hq : _ = _ := hSw; go_simp⟩) hS ?_
    simp only [Act.put, List.setIfInBounds_toArray, List.set_cons_zero, List.set_cons_succ]
    refine wpAnyH_takeD 4 (some 19) (.int .i64 i) rfl rfl (by kernel_rfl) (by kernel_rfl) (by kernel_rfl) (fun _ _ _ h => h) (Or.inl ⟨by rfl, fun w hSw => by go_simp⟩) hS ?_
    simp only [Act.put, List.setIfInBounds_toArray, List.set_cons_zero, List.set_cons_succ]
    refine wpAnyH_takeD 5 (some 20) (.string t) rfl rfl (by kernel_rfl) (by kernel_rfl) (by kernel_rfl) (fun _ _ _ h => h) (Or.inl ⟨by rfl, fun w hSw => by go_simp⟩) hS ?_
    simp only [Act.put, List.setIfInBounds_toArray, List.set_cons_zero, List.set_cons_succ]
    refine wpAnyH_ready (rs := [6]) (by kernel_rfl) (by simp) ?_
    refine AllReadyH.cons rfl (fun K hK => ?_) AllReadyH.nil
    simp only [List.getElem_toArray, List.getElem_cons_succ, List.getElem_cons_zero]
    go_simp
    refine (unhide HCL _).mono ?_
    rintro e w1 ⟨rfl, hb1⟩
    have hB1 : Below w'.heap.size w' w1 := ((Below.refl _ w').drew).trans hb1
    have K1 := (unhide HKB) w1 hB1
    have c3' : w1.cell? ⟨pb, 3, none⟩ = some (.map (some bw)) := by rw [K1.blk.cell]; rfl
    refine hK.out _ _ c3' (fun hS => ?_)
    clear hK K
    obtain ⟨w2, hrun, hm2, hO2, hs2⟩ := K1.tx.put (unhide HI) t (unhide HT) (unhide HLN)
    have hpw : pb ≠ bw := K1.tx.not_blk K1.blk
    have c3'' : w2.cell? ⟨pb, 3, none⟩ = some (.map (some bw)) := by rw [(K1.blk.only hO2 (fun q => hpw q)).cell]; rfl
    have HF := hide ((unhide HFI) w1 w2 hB1 K1 hm2 hO2)
    clear K1 hm2 hO2 hs2 hpw c3' hB1 hb1
    refine wpAnyH_ready (rs := [7]) (by kernel_rfl) (by simp) ?_
    refine AllReadyH.cons rfl (fun K hK => ?_) AllReadyH.nil
    simp only [List.getElem_toArray, List.getElem_cons_succ, List.getElem_cons_zero]
    go_simp
    refine hK.out _ _ c3'' (fun hS => ?_)
    clear hK K
    refine wpAnyH_done (by kernel_rfl) ?_ _
    go_wp2
    go_ret
    rw [unhide HW]
    exact ⟨rfl, unhide HF⟩
  · have hne : (refP S i t != 0) = true := by simpa using he
    have HW := hide (show writeP S i t = S from by unfold writeP; rw [if_neg he])
    have HK := hide K
    clear K he ht
    generalize refP S i t = er at *
    go_enter Tryz.func90, Tryz.ntmps90
    go_wp2_with (go_at_call 130; refine (unhide HF0).mono ?_; rintro e w' ⟨rfl, rfl⟩)
    go_ret
    rw [unhide HW]
    exact ⟨rfl, (unhide HK).same⟩
end Go.Proofs.YtnnehadmnijhjaaGreatDoor
