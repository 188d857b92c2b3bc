import Derived.Test.YtnkaooafenakdaaGreatDoorMp36
namespace Go.Proofs.YtnkaooafenakdaaGreatDoor
open Go.RowKit Go.Maps Go.Sort Go.Shelf
/-- Cells 0 of a pool and its disk: enough to ask for the size. -/
theorem psize_any (w : World) (base b : Nat) (v : DV) (s : DSt) (h : Dk w base b v s) (pb jb : Nat) (op : Bool) (bw keep bv : Nat) (ov : Value) (hits mis : Int) (lost : Bool) (hB : Blk w pb (Pcs b jb op bw keep bv ov hits mis lost) 96) :
    Calls Tryz.prog 104 #[.pointer (some ⟨pb, 0, none⟩)] w fun e w' => e = .returned (.int .i64 (s.last.length : Int)) ∧ w' = w := by
  have c0 : w.cell? ⟨pb, 0, none⟩ = some (.pointer (some ⟨b, 0, none⟩)) := by rw [hB.cell]; rfl
  have HS := hide (size_any w base b v s h)
  clear hB h
  go_enter Tryz.func104, Tryz.ntmps104
  go_wp2_with (go_at_call 73; refine (unhide HS).mono ?_; rintro e w' ⟨rfl, rfl⟩)
  go_ret
  exact ⟨rfl, rfl⟩
theorem PKi.size {w0 w : World} {b jb pb : Nat} {S : PS} {X : Nat → Prop} {bw bv : Nat} {ov : Value} (K : PKi w0 w b jb pb S X bw bv ov) :
    Calls Tryz.prog 104 #[.pointer (some ⟨pb, 0, none⟩)] w fun e w' => e = .returned (.int .i64 (S.s.last.length : Int)) ∧ w' = w := by
  obtain ⟨v, hd⟩ := K.jk.dk
  exact psize_any w _ b v _ hd pb _ _ _ _ _ _ _ _ _ K.blk
/-- Is there such a sector? -/
def hasB (s : DSt) (i : Int) : Bool := decide (0 ≤ i) && decide (i < (s.last.length : Int))
theorem PKi.has {w0 w : World} {b jb pb : Nat} {S : PS} {X : Nat → Prop} {bw bv : Nat} {ov : Value} (K : PKi w0 w b jb pb S X bw bv ov) (i : Int) :
    Calls Tryz.prog 52 #[.pointer (some ⟨pb, 0, none⟩), .int .i64 i] w fun e w' => e = .returned (.bool (hasB S.s i)) ∧ w' = w := by
  have HS := hide K.size
  have HB := hide (show hasB S.s i = (decide (0 ≤ i) && decide (i < (S.s.last.length : Int))) from rfl)
  clear K
  generalize (S.s.last.length : Int) = n at *
  generalize hasB S.s i = q at *
  by_cases h0 : 0 ≤ i
  · have hd : decide ((0 : Int) ≤ i) = true := by simpa using h0
    go_enter Tryz.func52, Tryz.ntmps52
    go_wp2_with (go_at_call 104; refine (unhide HS).mono ?_; rintro e w' ⟨rfl, rfl⟩)
    go_ret
    have := unhide HB
    rw [hd] at this
    exact ⟨by rw [this]; simp, rfl⟩
  · have hd : decide ((0 : Int) ≤ i) = false := by simpa using h0
    go_enter Tryz.func52, Tryz.ntmps52
    go_wp2
    go_ret
    have := unhide HB
    rw [hd] at this
    exact ⟨by rw [this]; simp, rfl⟩
def beginE (S : PS) : Int := if S.op then 60 else if S.lost then 2 else 0
def beginS (S : PS) : PS := if S.op then S else if S.lost then S else { S with op := true }
theorem PKi.store {w0 w : World} {b jb pb : Nat} {S : PS} {X : Nat → Prop} {bw bv : Nat} {ov : Value} (K : PKi w0 w b jb pb S X bw bv ov) (o : Nat) (u : Value) (S' : PS) (hc : (Pcs b jb S.op bw S.keep bv ov S.hits S.mis S.lost).setIfInBounds o u = Pcs b jb S'.op bw S.keep bv ov S'.hits S'.mis S'.lost) (e1 : S'.s = S.s) (e2 : S'.nx = S.nx) (e3 : S'.jl = S.jl) (e4 : S'.keep = S.keep) (e5 : S'.tx = S.tx) (e6 : S'.h = S.h) :
    PKi w0 (w.setCell ⟨pb, o, none⟩ u) b jb pb S' X bw bv ov ∧ Only (fun x => ¬ X x) w (w.setCell ⟨pb, o, none⟩ u) := by
  have hO : Only (fun x => x = pb) w (w.setCell ⟨pb, o, none⟩ u) := (Only.refl _ _).setCell _ _ (fun _ => rfl)
  have hB := K.blk.set o u
  rw [hc] at hB
  have hbw : bw ≠ pb := fun q => K.tx.not_blk K.blk q.symm
  have hbv : bv ≠ pb := fun q => by obtain ⟨L, _, hm⟩ := K.hn.mp; exact hm.not_blk K.blk q.symm
  have hop : ov.ownBlock ≠ some pb := K.blk.not_row (by decide) K.hn.ord
  refine ⟨⟨?_, by rw [e4]; exact hB, by rw [e5]; exact K.tx.only hO hbw, by rw [e6]; exact K.hn.only hO hbv (fun x hx q => hop (by rw [hx, q])), K.ne, K.lo1, K.lo2, K.lo3, K.xn, by rw [e6, e4]; exact K.hk, by rw [e4]; exact K.kp, by rw [e5]; exact K.t16, by rw [e5, e1]; exact K.tok⟩, hO.mono (fun x _ q r => K.xn x r (.inl q))⟩
  rw [e1, e2, e3]
  exact K.jk.poke hO (fun x q _ => .inr (.inl q)) (fun x q => by rw [q]; exact K.lo1) (fun x hx => .inl hx)
theorem pbegin_any {w0 w : World} {b jb pb : Nat} {S : PS} {X : Nat → Prop} (K : PK w0 w b jb pb S X) :
    Calls Tryz.prog 11 #[.pointer (some ⟨pb, 0, none⟩)] w fun e w' => e = .returned (.int .i64 (beginE S)) ∧ PK w0 w' b jb pb (beginS S) X ∧ Only (fun x => ¬ X x) w w' := by
  obtain ⟨bw, bv, ov, K⟩ := K
  have c2 : w.cell? ⟨pb, 2, none⟩ = some (.bool S.op) := by rw [K.blk.cell]; rfl
  have c9 : w.cell? ⟨pb, 9, none⟩ = some (.bool S.lost) := by rw [K.blk.cell]; rfl
  have f2 : w.frozen? ⟨pb, 2, none⟩ = false := K.blk.frozen 2
  cases ho : S.op with
  | true =>
    rw [ho] at c2
    have HR := hide (show beginE S = 60 ∧ beginS S = S from by simp [beginE, beginS, ho])
    have HK := hide K
    clear K ho
    go_enter Tryz.func11, Tryz.ntmps11
    go_wp2
    go_ret
    rw [(unhide HR).1, (unhide HR).2]
    exact ⟨rfl, (unhide HK).same⟩
  | false =>
    rw [ho] at c2
    cases hl : S.lost with
    | true =>
      rw [hl] at c9
      have HR := hide (show beginE S = 2 ∧ beginS S = S from by simp [beginE, beginS, ho, hl])
      have HK := hide K
      clear K ho hl
      go_enter Tryz.func11, Tryz.ntmps11
      go_wp2
      go_ret
      rw [(unhide HR).1, (unhide HR).2]
      exact ⟨rfl, (unhide HK).same⟩
    | false =>
      rw [hl] at c9
      have HR := hide (show beginE S = 0 ∧ beginS S = { S with op := true } from by simp [beginE, beginS, ho, hl])
      have hK := K.store 2 (.bool true) { S with op := true } rfl rfl rfl rfl rfl rfl rfl
      have HK := hide (show PK w0 (w.setCell ⟨pb, 2, none⟩ (.bool true)) b jb pb { S with op := true } X ∧ Only (fun x => ¬ X x) w (w.setCell ⟨pb, 2, none⟩ (.bool true)) from ⟨⟨bw, bv, ov, hK.1⟩, hK.2⟩)
      clear K ho hl hK
      go_enter Tryz.func11, Tryz.ntmps11
      go_wp2
      go_ret
      rw [(unhide HR).1, (unhide HR).2]
      exact ⟨rfl, unhide HK⟩
/-- end: no transaction is open. -/
def endS (S : PS) : PS := { S with op := false, tx := [] }
set_option maxRecDepth 100000 in
set_option maxHeartbeats 1000000 in
theorem pend_any {w0 w : World} {b jb pb : Nat} {S : PS} {X : Nat → Prop} {bw bv : Nat} {ov : Value} (K : PKi w0 w b jb pb S X bw bv ov) :
    Calls Tryz.prog 49 #[.pointer (some ⟨pb, 0, none⟩)] w fun e w' => e = .returned (.tuple #[]) ∧ PKi w0 w' b jb pb (endS S) X bw bv ov ∧ Only (fun x => x = pb ∨ x = bw) w w' := by
  have c2 : w.cell? ⟨pb, 2, none⟩ = some (.bool S.op) := by rw [K.blk.cell]; rfl
  have f2 : w.frozen? ⟨pb, 2, none⟩ = false := K.blk.frozen 2
  obtain ⟨K1, _⟩ := K.store 2 (.bool false) { S with op := false } rfl rfl rfl rfl rfl rfl rfl
  have hO1 : Only (fun x => x = pb ∨ x = bw) w (w.setCell ⟨pb, 2, none⟩ (.bool false)) := (Only.refl _ _).setCell _ _ (fun _ => .inl rfl)
  obtain ⟨w2, hrun, hm2, hO2, hs2⟩ := K1.tx.clear 0
  have c3 : w.cell? ⟨pb, 3, none⟩ = some (.map (some bw)) := by rw [K.blk.cell]; rfl
  have hpw : pb ≠ bw := K1.tx.not_blk K1.blk
  have hov : ∀ x, ov.ownBlock = some x → ¬ x = bw := fun x hx q => K1.tx.not_row K1.hn.ord (by rw [hx, q])
  have HR := hide (show PKi w0 w2 b jb pb (endS S) X bw bv ov ∧ Only (fun x => x = pb ∨ x = bw) w w2 from by
    refine ⟨⟨?_, K1.blk.only hO2 (fun q => hpw q), hm2, K1.hn.only hO2 (fun q => K1.ne q.symm) hov, K1.ne, K1.lo1, K1.lo2, K1.lo3, K1.xn, K1.hk, K1.kp, Nat.zero_le _, fun p hp => by cases hp⟩, hO1.trans hO2 (fun x _ q => .inr q)⟩
    exact K1.jk.poke hO2 (fun x q _ => .inr (.inr (.inl q))) (fun x q => by rw [q]; exact K1.lo2) (fun x hx => .inl hx))
  clear K K1 hO1 hO2 hs2 hm2 hpw hov
  go_enter Tryz.func49, Tryz.ntmps49
  go_wp2
  go_end0
  exact ⟨rfl, unhide HR⟩
def abortE (S : PS) : Int := if S.op then 0 else 61
def abortS (S : PS) : PS := if S.op then endS S else S
theorem pabort_any {w0 w : World} {b jb pb : Nat} {S : PS} {X : Nat → Prop} (K : PK w0 w b jb pb S X) :
    Calls Tryz.prog 18 #[.pointer (some ⟨pb, 0, none⟩)] w fun e w' => e = .returned (.int .i64 (abortE S)) ∧ PK w0 w' b jb pb (abortS S) X ∧ Only (fun x => ¬ X x) w w' := by
  obtain ⟨bw, bv, ov, K⟩ := K
  have c2 : w.cell? ⟨pb, 2, none⟩ = some (.bool S.op) := by rw [K.blk.cell]; rfl
  cases ho : S.op with
  | false =>
    rw [ho] at c2
    have HR := hide (show abortE S = 61 ∧ abortS S = S from by simp [abortE, abortS, ho])
    have HK := hide K
    clear K ho
    go_enter Tryz.func18, Tryz.ntmps18
    go_wp2
    go_ret
    rw [(unhide HR).1, (unhide HR).2]
    exact ⟨rfl, (unhide HK).same⟩
  | true =>
    rw [ho] at c2
    have HR := hide (show abortE S = 0 ∧ abortS S = endS S from by simp [abortE, abortS, ho])
    have HE := hide (pend_any K)
    have HXn := hide K.xn
    clear K ho
    go_enter Tryz.func18, Tryz.ntmps18
    go_wp2_with (go_at_call 49; refine (unhide HE).mono ?_; rintro e w' ⟨rfl, hk, ho⟩)
    go_ret
    rw [(unhide HR).1, (unhide HR).2]
    refine ⟨rfl, ⟨bw, bv, ov, hk⟩, ho.mono (fun x _ q r => (unhide HXn) x r ?_)⟩
    rcases q with q | q
    · exact .inl q
    · exact .inr (.inl q)
end Go.Proofs.YtnkaooafenakdaaGreatDoor

namespace Go.Proofs.YtnkaooafenakdaaGreatDoor
open Go.RowKit Go.Maps Go.Sort Go.Shelf
theorem Mp.look_size {w : World} {b : Nat} {l : Tx} (h : Mp w b l) {k : Int} (hk : I64k k) : ((txAt l k).getD ByteArray.empty).size ≤ maxLen := by
  have hz0 : plainElem (H := Unit) Tryz.prog 9 (.string ByteArray.empty) = some (litS ByteArray.empty, []) := plainElem_string Tryz.underlying9 (by decide)
  obtain ⟨v, ps, hrun, hv⟩ := h.1.lookup law3 Tryz.underlying92 (zero9 w) hz0 (key3 hk)
  have h2 := (h.look hk).2
  rw [hrun] at h2
  injection h2 with h2 _
  subst h2
  obtain ⟨c, e, _, hc⟩ := plainElem_string_inv Tryz.underlying9 hv
  injection e with e
  rw [e]; exact hc
def inc (x : Int) : Int := IntKind.i64.wrap (x + 1)
def missS (S : PS) (i : Int) : PS := { S with mis := inc S.mis, h := hLay S.keep i (readT S.s i) S.h }
def hitS (S : PS) (i : Int) (t : ByteArray) : PS := { S with hits := inc S.hits, h := hLay S.keep i t S.h }
def lostS (S : PS) : PS := { S with lost := true }
/-- What Read answers and leaves. -/
def readP (S : PS) (i : Int) : ByteArray × Int × PS :=
  if hasB S.s i = false then (⟨#[]⟩, 41, S)
  else if S.lost then (⟨#[]⟩, 2, S)
  else match txAt S.tx i with
    | some t => (t, 0, S)
    | none => match txAt S.h i with
      | some t => (t, 0, hitS S i t)
      | none => if readE S.s i = 0 then (readT S.s i, 0, missS S i) else (⟨#[]⟩, readE S.s i, lostS S)
theorem hasB_i64 {s : DSt} (hs : Sane s) {i : Int} (h : hasB s i = true) : I64k i := by
  have := hs.cap
  simp [hasB] at h
  exact ⟨by omega, by omega⟩
theorem Hb.pf {pb bw bv : Nat} {ov : Value} {x : Nat} (h : Hb pb bv ov x) : Pf pb bw bv ov x := by
  rcases h with q | q | q
  · exact .inl q
  · exact .inr (.inr (.inl q))
  · exact .inr (.inr (.inr q))
theorem PKi.lay {w0 w : World} {b jb pb : Nat} {S : PS} {X : Nat → Prop} {bw bv : Nat} {ov : Value} (K : PKi w0 w b jb pb S X bw bv ov) (k : Int) (hk : I64k k) (s : ByteArray) (hs : s.size ≤ maxLen) :
    Calls Tryz.prog 51 #[.pointer (some ⟨pb, 4, none⟩), .int .i64 k, .string s] w fun e w' => e = .returned (.tuple #[]) ∧ PK w0 w' b jb pb { S with h := hLay S.keep k s S.h } X ∧ Only (fun x => ¬ X x) w w' := by
  refine (hlay_any w w0.heap.size pb b jb S.op bw S.keep bv ov S.hits S.mis S.lost S.h K.blk K.hn K.jk.bel.size k hk s hs K.hk K.kp).mono ?_
  rintro e w' ⟨rfl, ov', r1, r2, r3, r4⟩
  have hp1 : ¬ Hb pb bv ov bw := by
    rintro (q | q | q)
    · exact K.tx.not_blk K.blk q.symm
    · exact K.ne q
    · exact K.tx.not_row K.hn.ord q
  exact ⟨rfl, K.upd (r3.mono (fun x _ q => q.pf)) ov' r4 { S with h := hLay S.keep k s S.h } rfl rfl rfl rfl r1 (K.tx.only r3 hp1) r2 (hLay_len _ _ _ _) K.t16 K.tok⟩
set_option maxRecDepth 100000 in
set_option maxHeartbeats 1000000 in
theorem fetch_any {w0 w : World} {b jb pb : Nat} {S : PS} {X : Nat → Prop} {bw bv : Nat} {ov : Value} (K : PKi w0 w b jb pb S X bw bv ov) (i : Int) (hi : I64k i) (hT : (readT S.s i).size ≤ maxLen) :
    Calls Tryz.prog 54 #[.pointer (some ⟨pb, 0, none⟩), .int .i64 i] w fun e w' => e = .returned (.tuple #[.string (if readE S.s i = 0 then readT S.s i else ⟨#[]⟩), .int .i64 (readE S.s i)]) ∧ PK w0 w' b jb pb (if readE S.s i = 0 then missS S i else lostS S) X ∧ Only (fun x => ¬ X x) w w' := by
  obtain ⟨v, hd⟩ := K.jk.dk
  have HR := hide (read_any w _ b v S.s hd K.jk.sane.same i)
  have c0 : w.cell? ⟨pb, 0, none⟩ = some (.pointer (some ⟨b, 0, none⟩)) := by rw [K.blk.cell]; rfl
  have c8 : w.cell? ⟨pb, 8, none⟩ = some (.int .i64 S.mis) := by rw [K.blk.cell]; rfl
  have c9 : w.cell? ⟨pb, 9, none⟩ = some (.bool S.lost) := by rw [K.blk.cell]; rfl
  have f8 : w.frozen? ⟨pb, 8, none⟩ = false := K.blk.frozen 8
  have f9 : w.frozen? ⟨pb, 9, none⟩ = false := K.blk.frozen 9
  by_cases he : readE S.s i = 0
  · rw [if_pos he, if_pos he]
    rw [he] at HR ⊢
    obtain ⟨K1, hO1⟩ := K.store 8 (.int .i64 (inc S.mis)) { S with mis := inc S.mis } rfl rfl rfl rfl rfl rfl rfl
    have HL := hide (K1.lay i hi (readT S.s i) hT)
    have HI := hide (show IntKind.i64.wrap (S.mis + 1) = inc S.mis from rfl)
    have HO := hide hO1
    have HM := hide (show ({ ({ S with mis := inc S.mis } : PS) with h := hLay S.keep i (readT S.s i) S.h } : PS) = missS S i from rfl)
    clear K K1 hO1 hd hT he hi
    generalize readT S.s i = t at *
    obtain ⟨mi, hmi⟩ : ∃ m, inc S.mis = m := ⟨_, rfl⟩
    rw [hmi] at HI HO HL
    have hwr := unhide HI
    clear HI
    go_enter Tryz.func54, Tryz.ntmps54
    go_wp2_with (first
      | (go_at_call 71; refine (unhide HR).mono ?_; rintro e w' ⟨rfl, rfl⟩)
      | (go_at_call 51; refine (unhide HL).mono ?_; rintro e w' ⟨rfl, hk, ho⟩))
    go_ret2
    refine ⟨rfl, ?_, (unhide HO).trans ho (fun _ _ q => q)⟩
    rw [← unhide HM, hmi]
    exact hk
  · rw [if_neg he, if_neg he]
    have hne : (readE S.s i != 0) = true := by simpa using he
    obtain ⟨K1, hO1⟩ := K.store 9 (.bool true) (lostS S) rfl rfl rfl rfl rfl rfl rfl
    have HL := hide (And.intro (show PK w0 _ b jb pb (lostS S) X from ⟨bw, bv, ov, K1⟩) hO1)
    clear K K1 hO1 hd hT he hi
    generalize readT S.s i = t at *
    generalize readE S.s i = er at *
    go_enter Tryz.func54, Tryz.ntmps54
    go_wp2_with (go_at_call 71; refine (unhide HR).mono ?_; rintro e w' ⟨rfl, rfl⟩)
    go_ret2
    exact ⟨rfl, unhide HL⟩
set_option maxRecDepth 100000 in
set_option maxHeartbeats 1000000 in
theorem pread_any {w0 w : World} {b jb pb : Nat} {S : PS} {X : Nat → Prop} (K : PK w0 w b jb pb S X) (i : Int) (hT : (readT S.s i).size ≤ maxLen) :
    Calls Tryz.prog 16 #[.pointer (some ⟨pb, 0, none⟩), .int .i64 i] w fun e w' => e = .returned (.tuple #[.string (readP S i).1, .int .i64 (readP S i).2.1]) ∧ PK w0 w' b jb pb (readP S i).2.2 X ∧ Only (fun x => ¬ X x) w w' := by
  obtain ⟨bw, bv, ov, K⟩ := K
  have HH := hide (K.has i)
  cases hh : hasB S.s i with
  | false =>
    rw [hh] at HH
    have HR := hide (show readP S i = (⟨#[]⟩, 41, S) from by unfold readP; rw [hh]; rfl)
    have HK := hide K
    clear K hh hT
    go_enter Tryz.func16, Tryz.ntmps16
    go_wp2_with (go_at_call 52; refine (unhide HH).mono ?_; rintro e w' ⟨rfl, rfl⟩)
    go_ret2
    rw [unhide HR]
    exact ⟨rfl, (unhide HK).same⟩
  | true =>
    rw [hh] at HH
    have hi := hasB_i64 K.jk.sane hh
    have c9 : w.cell? ⟨pb, 9, none⟩ = some (.bool S.lost) := by rw [K.blk.cell]; rfl
    have c3 : w.cell? ⟨pb, 3, none⟩ = some (.map (some bw)) := by rw [K.blk.cell]; rfl
    cases hl : S.lost with
    | true =>
      rw [hl] at c9
      have HR := hide (show readP S i = (⟨#[]⟩, 2, S) from by unfold readP; rw [hh, hl]; rfl)
      have HK := hide K
      clear K hh hT hl hi
      go_enter Tryz.func16, Tryz.ntmps16
      go_wp2_with (go_at_call 52; refine (unhide HH).mono ?_; rintro e w' ⟨rfl, rfl⟩)
      go_ret2
      rw [unhide HR]
      exact ⟨rfl, (unhide HK).same⟩
    | false =>
      rw [hl] at c9
      have hlk := (K.tx.look hi).1
      cases ht : txAt S.tx i with
      | some t =>
        rw [ht] at hlk
        simp only [Option.getD_some, Option.isSome_some] at hlk
        have HR := hide (show readP S i = (t, 0, S) from by unfold readP; rw [hh, hl, ht]; rfl)
        have HK := hide K
        clear K hh hT hl hi ht
        go_enter Tryz.func16, Tryz.ntmps16
        go_wp2_with (go_at_call 52; refine (unhide HH).mono ?_; rintro e w' ⟨rfl, rfl⟩)
        go_ret2
        rw [unhide HR]
        exact ⟨rfl, (unhide HK).same⟩
      | none =>
        rw [ht] at hlk
        simp only [Option.getD_none, Option.isSome_none] at hlk
        have HF := hide (hfind_any w _ pb b jb S.op bw S.keep bv ov S.hits S.mis S.lost S.h K.blk K.hn i hi)
        cases hf : txAt S.h i with
        | some t =>
          rw [hf] at HF
          simp only [Option.getD_some, Option.isSome_some] at HF
          have hts : t.size ≤ maxLen := by
            obtain ⟨L, hp, hm⟩ := K.hn.mp
            have := hm.look_size hi
            rw [← at_perm hm.2.nd hp i, hf] at this
            exact this
          have HR := hide (show readP S i = (t, 0, hitS S i t) from by unfold readP; rw [hh, hl, ht]; simp only [hf]; rfl)
          have c7 : w.cell? ⟨pb, 7, none⟩ = some (.int .i64 S.hits) := by rw [K.blk.cell]; rfl
          have f7 : w.frozen? ⟨pb, 7, none⟩ = false := K.blk.frozen 7
          obtain ⟨K1, hO1⟩ := K.store 7 (.int .i64 (inc S.hits)) { S with hits := inc S.hits } rfl rfl rfl rfl rfl rfl rfl
          have HL := hide (K1.lay i hi t hts)
          have HO := hide hO1
          have HM := hide (show ({ ({ S with hits := inc S.hits } : PS) with h := hLay S.keep i t S.h } : PS) = hitS S i t from rfl)
          obtain ⟨mi, hmi⟩ : ∃ m, inc S.hits = m := ⟨_, rfl⟩
          have hwr : IntKind.i64.wrap (S.hits + 1) = mi := hmi
          rw [hmi] at HO HL
          clear K K1 hO1 hh hT hl hi ht hf hts
          go_enter Tryz.func16, Tryz.ntmps16
          go_wp2_with (first
            | (go_at_call 52; refine (unhide HH).mono ?_; rintro e w' ⟨rfl, rfl⟩)
            | (go_at_call 53; refine (unhide HF).mono ?_; rintro e w' ⟨rfl, rfl⟩)
            | (go_at_call 51; refine (unhide HL).mono ?_; rintro e w' ⟨rfl, hk, ho⟩))
          go_ret2
          rw [unhide HR]
          refine ⟨rfl, ?_, (unhide HO).trans ho (fun _ _ q => q)⟩
          show PK _ _ _ _ _ (hitS S i t) _
          rw [← unhide HM, hmi]
          exact hk
        | none =>
          rw [hf] at HF
          simp only [Option.getD_none, Option.isSome_none] at HF
          have HFE := hide (fetch_any K i hi hT)
          have HR := hide (show readP S i = (if readE S.s i = 0 then readT S.s i else ⟨#[]⟩, readE S.s i, if readE S.s i = 0 then missS S i else lostS S) from by
            unfold readP
            rw [hh, hl, ht]
            simp only [hf]
            by_cases h0 : readE S.s i = 0
            · simp [h0]
            · simp [h0])
          clear K hh hT hl hi ht hf
          generalize (if readE S.s i = 0 then readT S.s i else ⟨#[]⟩) = t at *
          generalize readE S.s i = er at *
          go_enter Tryz.func16, Tryz.ntmps16
          go_wp2_with (first
            | (go_at_call 52; refine (unhide HH).mono ?_; rintro e w' ⟨rfl, rfl⟩)
            | (go_at_call 53; refine (unhide HF).mono ?_; rintro e w' ⟨rfl, rfl⟩)
            | (go_at_call 54; refine (unhide HFE).mono ?_; rintro e w' ⟨rfl, hk, ho⟩))
          go_ret2
          rw [unhide HR]
          exact ⟨rfl, hk, ho⟩
end Go.Proofs.YtnkaooafenakdaaGreatDoor
