import Derived.Test.YtnkaooafenakdaaGreatDoorMr40
import Derived.Test.YtnkaooafenakdaaGreatDoorMr33
namespace Go.Proofs.YtnkaooafenakdaaGreatDoor
open Go.RowKit Go.Maps Go.Sort Go.Shelf
/-- A pool's state. -/
structure PS where
  s : DSt
  nx : Nat
  jl : Bool
  op : Bool
  tx : Tx
  keep : Nat
  h : Tx
  hits : Int
  mis : Int
  lost : Bool
def Pf (pb bw bv : Nat) (ov : Value) (x : Nat) : Prop := x = pb ∨ x = bw ∨ x = bv ∨ ov.ownBlock = some x
/-- A pool at pb, behind w0, and a fence. -/
structure PKi (w0 w : World) (b jb pb : Nat) (S : PS) (X : Nat → Prop) (bw bv : Nat) (ov : Value) : Prop where
  jk : JK w0 w b jb S.s S.nx S.jl (fun x => X x ∨ Pf pb bw bv ov x)
  blk : Blk w pb (Pcs b jb S.op bw S.keep bv ov S.hits S.mis S.lost) 96
  tx : Mp w bw S.tx
  hn : Hn w w0.heap.size S.h bv ov
  ne : bw ≠ bv
  lo1 : w0.heap.size ≤ pb
  lo2 : w0.heap.size ≤ bw
  lo3 : w0.heap.size ≤ bv
  xn : ∀ x, X x → ¬ Pf pb bw bv ov x
  hk : S.h.length ≤ S.keep
  kp : S.keep ≤ 64
  t16 : S.tx.length ≤ 16
  tok : ∀ p ∈ S.tx, 19 ≤ p.1 ∧ p.1 < (S.s.last.length : Int) ∧ p.2.size = 256
def PK (w0 w : World) (b jb pb : Nat) (S : PS) (X : Nat → Prop) : Prop := ∃ bw bv ov, PKi w0 w b jb pb S X bw bv ov
theorem JK.poke {w0 w w' : World} {b jb : Nat} {s : DSt} {nx : Nat} {lost : Bool} {Y P Z : Nat → Prop} (h : JK w0 w b jb s nx lost Y) (ho : Only P w w') (hP : ∀ x, P x → x < w.heap.size → Y x) (hlo : ∀ x, P x → w0.heap.size ≤ x) (hZ : ∀ x, Z x → Y x ∨ (w.heap.size ≤ x ∧ x < w'.heap.size)) : JK w0 w' b jb s nx lost Z := by
  obtain ⟨v, h1, h2, h3, h4, h5, h6, h7⟩ := h
  have hjb := Blk.lt h2
  refine ⟨v, h1.only ho (fun k hk q => (h7 k (hP k q (h1.fd k hk).2)).1 hk), Blk.only h2 ho (fun q => (h7 jb (hP jb q hjb)).2.1 rfl), h3, h4, h5.trans (ho.below h5.size (fun k hk q => by have := hlo k q; omega)), h6, fun x hx => ?_⟩
  rcases hZ x hx with q | ⟨q1, q2⟩
  · obtain ⟨a1, a2, a3⟩ := h7 x q
    exact ⟨a1, a2, Nat.lt_of_lt_of_le a3 ho.size⟩
  · refine ⟨fun q => ?_, fun q => ?_, q2⟩
    · have := (h1.fd x q).2; omega
    · omega
theorem JK.dk {w0 w : World} {b jb : Nat} {s : DSt} {nx : Nat} {lost : Bool} {Y : Nat → Prop} (h : JK w0 w b jb s nx lost Y) : ∃ v, Dk w w0.heap.size b v s := by
  obtain ⟨v, h1, _⟩ := h
  exact ⟨v, h1⟩
theorem JK.sane {w0 w : World} {b jb : Nat} {s : DSt} {nx : Nat} {lost : Bool} {Y : Nat → Prop} (h : JK w0 w b jb s nx lost Y) : Sane s := by
  obtain ⟨v, h1, h2, h3, h4, h5, h6, h7⟩ := h
  exact h6
/-- The pool's own blocks were written. -/
theorem PKi.upd {w0 w w' : World} {b jb pb : Nat} {S : PS} {X : Nat → Prop} {bw bv : Nat} {ov : Value} (K : PKi w0 w b jb pb S X bw bv ov) (ho : Only (Pf pb bw bv ov) w w') (ov' : Value) (hov : ov'.ownBlock = ov.ownBlock ∨ ∃ g, ov'.ownBlock = some g ∧ w.heap.size ≤ g) (S' : PS) (e1 : S'.s = S.s) (e2 : S'.nx = S.nx) (e3 : S'.jl = S.jl) (e4 : S'.keep = S.keep) (hB : Blk w' pb (Pcs b jb S'.op bw S.keep bv ov' S'.hits S'.mis S'.lost) 96) (hm : Mp w' bw S'.tx) (hn : Hn w' w0.heap.size S'.h bv ov') (hk : S'.h.length ≤ S.keep) (ht : S'.tx.length ≤ 16) (htk : ∀ p ∈ S'.tx, 19 ≤ p.1 ∧ p.1 < (S.s.last.length : Int) ∧ p.2.size = 256) :
    PK w0 w' b jb pb S' X ∧ Only (fun x => ¬ X x) w w' := by
  have hlo : ∀ x, Pf pb bw bv ov x → w0.heap.size ≤ x := fun x hx => by
    rcases hx with rfl | rfl | rfl | q
    · exact K.lo1
    · exact K.lo2
    · exact K.lo3
    · exact (row_lt K.hn.ord q).2
  have hnew : ∀ x, Pf pb bw bv ov' x → Pf pb bw bv ov x ∨ (w.heap.size ≤ x ∧ x < w'.heap.size) := fun x hx => by
    rcases hx with q | q | q | q
    · exact .inl (.inl q)
    · exact .inl (.inr (.inl q))
    · exact .inl (.inr (.inr (.inl q)))
    · rcases hov with r | ⟨g, r1, r2⟩
      · exact .inl (.inr (.inr (.inr (by rw [← r]; exact q))))
      · rw [q] at r1; cases r1
        exact .inr ⟨r2, (row_lt hn.ord q).1⟩
  refine ⟨⟨bw, bv, ov', ?_, ?_, hm, hn, K.ne, K.lo1, K.lo2, K.lo3, fun x hx q => ?_, by rw [e4]; exact hk, by rw [e4]; exact K.kp, ht, by rw [e1]; exact htk⟩, ho.mono (fun x _ q r => K.xn x r q)⟩
  · rw [e1, e2, e3]
    refine K.jk.poke ho (fun x q _ => .inr q) hlo (fun x hx => ?_)
    rcases hx with q | q
    · exact .inl (.inl q)
    · rcases hnew x q with r | r
      · exact .inl (.inr r)
      · exact .inr r
  · rw [e4]; exact hB
  · rcases hnew x q with r | r
    · exact K.xn x hx r
    · have := K.jk.lt x (.inl hx); omega
theorem PKi.same {w0 w : World} {b jb pb : Nat} {S : PS} {X : Nat → Prop} {bw bv : Nat} {ov : Value} (K : PKi w0 w b jb pb S X bw bv ov) : PK w0 w b jb pb S X ∧ Only (fun x => ¬ X x) w w := ⟨⟨bw, bv, ov, K⟩, Only.refl _ _⟩
theorem PK.below {w0 w w' : World} {b jb pb : Nat} {S : PS} {X : Nat → Prop} (h : PK w0 w b jb pb S X) (hb : Below w.heap.size w w') : PK w0 w' b jb pb S X := by
  obtain ⟨bw, bv, ov, K⟩ := h
  have hO : Only (fun _ => False) w w' := Only.of_below hb
  exact ⟨bw, bv, ov, K.jk.below hb, K.blk.only hO (fun q => q), K.tx.only hO (fun q => q), K.hn.only hO (fun q => q) (fun _ _ q => q), K.ne, K.lo1, K.lo2, K.lo3, K.xn, K.hk, K.kp, K.t16, K.tok⟩
theorem PK.bel {w0 w : World} {b jb pb : Nat} {S : PS} {X : Nat → Prop} (h : PK w0 w b jb pb S X) : Below w0.heap.size w0 w := by
  obtain ⟨bw, bv, ov, K⟩ := h
  exact K.jk.bel
theorem PK.lt {w0 w : World} {b jb pb : Nat} {S : PS} {X : Nat → Prop} (h : PK w0 w b jb pb S X) (x : Nat) (hx : X x) : x < w.heap.size := by
  obtain ⟨bw, bv, ov, K⟩ := h
  exact K.jk.lt x (.inl hx)
theorem PK.more {w0 w w' : World} {b jb pb : Nat} {S : PS} {X Y : Nat → Prop} (h : PK w0 w b jb pb S X) (hb : Below w.heap.size w w') (hy : ∀ x, Y x → X x ∨ (w.heap.size ≤ x ∧ x < w'.heap.size)) : PK w0 w' b jb pb S Y := by
  obtain ⟨bw, bv, ov, K⟩ := h
  have hO : Only (fun _ => False) w w' := Only.of_below hb
  refine ⟨bw, bv, ov, K.jk.more hb _ (fun x hx => ?_), K.blk.only hO (fun q => q), K.tx.only hO (fun q => q), K.hn.only hO (fun q => q) (fun _ _ q => q), K.ne, K.lo1, K.lo2, K.lo3, fun x hx q => ?_, K.hk, K.kp, K.t16, K.tok⟩
  · rcases hx with q | q
    · rcases hy x q with r | r
      · exact .inl (.inl r)
      · exact .inr r
    · exact .inl (.inr q)
  · rcases hy x hx with r | r
    · exact K.xn x r q
    · have := K.jk.lt x (.inr q); omega
/-- A block of somebody else's, within the fence, was written. -/
theorem PK.poke {w0 w w' : World} {b jb pb : Nat} {S : PS} {X Y P : Nat → Prop} (h : PK w0 w b jb pb S X) (ho : Only P w w') (hP : ∀ x, P x → x < w.heap.size → X x) (hlo : ∀ x, P x → w0.heap.size ≤ x) (hy : ∀ x, Y x → X x ∨ (w.heap.size ≤ x ∧ x < w'.heap.size)) : PK w0 w' b jb pb S Y := by
  obtain ⟨bw, bv, ov, K⟩ := h
  have hn : ∀ x, Pf pb bw bv ov x → ¬ P x := fun x q r => K.xn x (hP x r (K.jk.lt x (.inr q))) q
  refine ⟨bw, bv, ov, K.jk.poke ho (fun x q r => .inl (hP x q r)) hlo (fun x hx => ?_), K.blk.only ho (hn _ (.inl rfl)), K.tx.only ho (hn _ (.inr (.inl rfl))), K.hn.only ho (hn _ (.inr (.inr (.inl rfl)))) (fun x hx => hn x (.inr (.inr (.inr hx)))), K.ne, K.lo1, K.lo2, K.lo3, fun x hx q => ?_, K.hk, K.kp, K.t16, K.tok⟩
  · rcases hx with q | q
    · rcases hy x q with r | r
      · exact .inl (.inl r)
      · exact .inr r
    · exact .inl (.inr q)
  · rcases hy x hx with r | r
    · exact K.xn x r q
    · have := K.jk.lt x (.inr q); omega
end Go.Proofs.YtnkaooafenakdaaGreatDoor

namespace Go.Proofs.YtnkaooafenakdaaGreatDoor
open Go.RowKit Go.Maps Go.Sort Go.Shelf
/-- Cells 0 of a pool and its disk: enough to ask for the size. -/
theorem psize_any (w : World) (base b : Nat) (v : DV) (s : DSt) (h : Dk w base b v s) (pb jb : Nat) (op : Bool) (bw keep bv : Nat) (ov : Value) (hits mis : Int) (lost : Bool) (hB : Blk w pb (Pcs b jb op bw keep bv ov hits mis lost) 96) :
    Calls Tryz.prog 104 #[.pointer (some ⟨pb, 0, none⟩)] w fun e w' => e = .returned (.int .i64 (s.last.length : Int)) ∧ w' = w := by
  have c0 : w.cell? ⟨pb, 0, none⟩ = some (.pointer (some ⟨b, 0, none⟩)) := by rw [hB.cell]; rfl
  have HS := hide (size_any w base b v s h)
  clear hB h
  go_enter Tryz.func104, Tryz.ntmps104
  go_wp2_with (go_at_call 73; refine (unhide HS).mono ?_; rintro e w' ⟨rfl, rfl⟩)
  go_ret
  exact ⟨rfl, rfl⟩
theorem PKi.size {w0 w : World} {b jb pb : Nat} {S : PS} {X : Nat → Prop} {bw bv : Nat} {ov : Value} (K : PKi w0 w b jb pb S X bw bv ov) :
    Calls Tryz.prog 104 #[.pointer (some ⟨pb, 0, none⟩)] w fun e w' => e = .returned (.int .i64 (S.s.last.length : Int)) ∧ w' = w := by
  obtain ⟨v, hd⟩ := K.jk.dk
  exact psize_any w _ b v _ hd pb _ _ _ _ _ _ _ _ _ K.blk
/-- Is there such a sector? -/
def hasB (s : DSt) (i : Int) : Bool := decide (0 ≤ i) && decide (i < (s.last.length : Int))
theorem PKi.has {w0 w : World} {b jb pb : Nat} {S : PS} {X : Nat → Prop} {bw bv : Nat} {ov : Value} (K : PKi w0 w b jb pb S X bw bv ov) (i : Int) :
    Calls Tryz.prog 52 #[.pointer (some ⟨pb, 0, none⟩), .int .i64 i] w fun e w' => e = .returned (.bool (hasB S.s i)) ∧ w' = w := by
  have HS := hide K.size
  have HB := hide (show hasB S.s i = (decide (0 ≤ i) && decide (i < (S.s.last.length : Int))) from rfl)
  clear K
  generalize (S.s.last.length : Int) = n at *
  generalize hasB S.s i = q at *
  by_cases h0 : 0 ≤ i
  · have hd : decide ((0 : Int) ≤ i) = true := by simpa using h0
    go_enter Tryz.func52, Tryz.ntmps52
    go_wp2_with (go_at_call 104; refine (unhide HS).mono ?_; rintro e w' ⟨rfl, rfl⟩)
    go_ret
    have := unhide HB
    rw [hd] at this
    exact ⟨by rw [this]; simp, rfl⟩
  · have hd : decide ((0 : Int) ≤ i) = false := by simpa using h0
    go_enter Tryz.func52, Tryz.ntmps52
    go_wp2
    go_ret
    have := unhide HB
    rw [hd] at this
    exact ⟨by rw [this]; simp, rfl⟩
def beginE (S : PS) : Int := if S.op then 60 else if S.lost then 2 else 0
def beginS (S : PS) : PS := if S.op then S else if S.lost then S else { S with op := true }
theorem PKi.store {w0 w : World} {b jb pb : Nat} {S : PS} {X : Nat → Prop} {bw bv : Nat} {ov : Value} (K : PKi w0 w b jb pb S X bw bv ov) (o : Nat) (u : Value) (S' : PS) (hc : (Pcs b jb S.op bw S.keep bv ov S.hits S.mis S.lost).setIfInBounds o u = Pcs b jb S'.op bw S.keep bv ov S'.hits S'.mis S'.lost) (e1 : S'.s = S.s) (e2 : S'.nx = S.nx) (e3 : S'.jl = S.jl) (e4 : S'.keep = S.keep) (e5 : S'.tx = S.tx) (e6 : S'.h = S.h) :
    PKi w0 (w.setCell ⟨pb, o, none⟩ u) b jb pb S' X bw bv ov ∧ Only (fun x => ¬ X x) w (w.setCell ⟨pb, o, none⟩ u) := by
  have hO : Only (fun x => x = pb) w (w.setCell ⟨pb, o, none⟩ u) := (Only.refl _ _).setCell _ _ (fun _ => rfl)
  have hB := K.blk.set o u
  rw [hc] at hB
  have hbw : bw ≠ pb := fun q => K.tx.not_blk K.blk q.symm
  have hbv : bv ≠ pb := fun q => by obtain ⟨L, _, hm⟩ := K.hn.mp; exact hm.not_blk K.blk q.symm
  have hop : ov.ownBlock ≠ some pb := K.blk.not_row (by decide) K.hn.ord
  refine ⟨⟨?_, by rw [e4]; exact hB, by rw [e5]; exact K.tx.only hO hbw, by rw [e6]; exact K.hn.only hO hbv (fun x hx q => hop (by rw [hx, q])), K.ne, K.lo1, K.lo2, K.lo3, K.xn, by rw [e6, e4]; exact K.hk, by rw [e4]; exact K.kp, by rw [e5]; exact K.t16, by rw [e5, e1]; exact K.tok⟩, hO.mono (fun x _ q r => K.xn x r (.inl q))⟩
  rw [e1, e2, e3]
  exact K.jk.poke hO (fun x q _ => .inr (.inl q)) (fun x q => by rw [q]; exact K.lo1) (fun x hx => .inl hx)
theorem pbegin_any {w0 w : World} {b jb pb : Nat} {S : PS} {X : Nat → Prop} (K : PK w0 w b jb pb S X) :
    Calls Tryz.prog 11 #[.pointer (some ⟨pb, 0, none⟩)] w fun e w' => e = .returned (.int .i64 (beginE S)) ∧ PK w0 w' b jb pb (beginS S) X ∧ Only (fun x => ¬ X x) w w' := by
  obtain ⟨bw, bv, ov, K⟩ := K
  have c2 : w.cell? ⟨pb, 2, none⟩ = some (.bool S.op) := by rw [K.blk.cell]; rfl
  have c9 : w.cell? ⟨pb, 9, none⟩ = some (.bool S.lost) := by rw [K.blk.cell]; rfl
  have f2 : w.frozen? ⟨pb, 2, none⟩ = false := K.blk.frozen 2
  cases ho : S.op with
  | true =>
    rw [ho] at c2
    have HR := hide (show beginE S = 60 ∧ beginS S = S from by simp [beginE, beginS, ho])
    have HK := hide K
    clear K ho
    go_enter Tryz.func11, Tryz.ntmps11
    go_wp2
    go_ret
    rw [(unhide HR).1, (unhide HR).2]
    exact ⟨rfl, (unhide HK).same⟩
  | false =>
    rw [ho] at c2
    cases hl : S.lost with
    | true =>
      rw [hl] at c9
      have HR := hide (show beginE S = 2 ∧ beginS S = S from by simp [beginE, beginS, ho, hl])
      have HK := hide K
      clear K ho hl
      go_enter Tryz.func11, Tryz.ntmps11
      go_wp2
      go_ret
      rw [(unhide HR).1, (unhide HR).2]
      exact ⟨rfl, (unhide HK).same⟩
    | false =>
      rw [hl] at c9
      have HR := hide (show beginE S = 0 ∧ beginS S = { S with op := true } from by simp [beginE, beginS, ho, hl])
      have hK := K.store 2 (.bool true) { S with op := true } rfl rfl rfl rfl rfl rfl rfl
      have HK := hide (show PK w0 (w.setCell ⟨pb, 2, none⟩ (.bool true)) b jb pb { S with op := true } X ∧ Only (fun x => ¬ X x) w (w.setCell ⟨pb, 2, none⟩ (.bool true)) from ⟨⟨bw, bv, ov, hK.1⟩, hK.2⟩)
      clear K ho hl hK
      go_enter Tryz.func11, Tryz.ntmps11
      go_wp2
      go_ret
      rw [(unhide HR).1, (unhide HR).2]
      exact ⟨rfl, unhide HK⟩
/-- end: no transaction is open. -/
def endS (S : PS) : PS := { S with op := false, tx := [] }
set_option maxRecDepth 100000 in
set_option maxHeartbeats 1000000 in
theorem pend_any {w0 w : World} {b jb pb : Nat} {S : PS} {X : Nat → Prop} {bw bv : Nat} {ov : Value} (K : PKi w0 w b jb pb S X bw bv ov) :
    Calls Tryz.prog 49 #[.pointer (some ⟨pb, 0, none⟩)] w fun e w' => e = .returned (.tuple #[]) ∧ PKi w0 w' b jb pb (endS S) X bw bv ov ∧ Only (fun x => x = pb ∨ x = bw) w w' := by
  have c2 : w.cell? ⟨pb, 2, none⟩ = some (.bool S.op) := by rw [K.blk.cell]; rfl
  have f2 : w.frozen? ⟨pb, 2, none⟩ = false := K.blk.frozen 2
  obtain ⟨K1, _⟩ := K.store 2 (.bool false) { S with op := false } rfl rfl rfl rfl rfl rfl rfl
  have hO1 : Only (fun x => x = pb ∨ x = bw) w (w.setCell ⟨pb, 2, none⟩ (.bool false)) := (Only.refl _ _).setCell _ _ (fun _ => .inl rfl)
  obtain ⟨w2, hrun, hm2, hO2, hs2⟩ := K1.tx.clear 0
  have c3 : w.cell? ⟨pb, 3, none⟩ = some (.map (some bw)) := by rw [K.blk.cell]; rfl
  have hpw : pb ≠ bw := K1.tx.not_blk K1.blk
  have hov : ∀ x, ov.ownBlock = some x → ¬ x = bw := fun x hx q => K1.tx.not_row K1.hn.ord (by rw [hx, q])
  have HR := hide (show PKi w0 w2 b jb pb (endS S) X bw bv ov ∧ Only (fun x => x = pb ∨ x = bw) w w2 from by
    refine ⟨⟨?_, K1.blk.only hO2 (fun q => hpw q), hm2, K1.hn.only hO2 (fun q => K1.ne q.symm) hov, K1.ne, K1.lo1, K1.lo2, K1.lo3, K1.xn, K1.hk, K1.kp, Nat.zero_le _, fun p hp => by cases hp⟩, hO1.trans hO2 (fun x _ q => .inr q)⟩
    exact K1.jk.poke hO2 (fun x q _ => .inr (.inr (.inl q))) (fun x q => by rw [q]; exact K1.lo2) (fun x hx => .inl hx))
  clear K K1 hO1 hO2 hs2 hm2 hpw hov
  go_enter Tryz.func49, Tryz.ntmps49
  go_wp2
  go_end0
  exact ⟨rfl, unhide HR⟩
def abortE (S : PS) : Int := if S.op then 0 else 61
def abortS (S : PS) : PS := if S.op then endS S else S
theorem pabort_any {w0 w : World} {b jb pb : Nat} {S : PS} {X : Nat → Prop} (K : PK w0 w b jb pb S X) :
    Calls Tryz.prog 18 #[.pointer (some ⟨pb, 0, none⟩)] w fun e w' => e = .returned (.int .i64 (abortE S)) ∧ PK w0 w' b jb pb (abortS S) X ∧ Only (fun x => ¬ X x) w w' := by
  obtain ⟨bw, bv, ov, K⟩ := K
  have c2 : w.cell? ⟨pb, 2, none⟩ = some (.bool S.op) := by rw [K.blk.cell]; rfl
  cases ho : S.op with
  | false =>
    rw [ho] at c2
    have HR := hide (show abortE S = 61 ∧ abortS S = S from by simp [abortE, abortS, ho])
    have HK := hide K
    clear K ho
    go_enter Tryz.func18, Tryz.ntmps18
    go_wp2
    go_ret
    rw [(unhide HR).1, (unhide HR).2]
    exact ⟨rfl, (unhide HK).same⟩
  | true =>
    rw [ho] at c2
    have HR := hide (show abortE S = 0 ∧ abortS S = endS S from by simp [abortE, abortS, ho])
    have HE := hide (pend_any K)
    have HXn := hide K.xn
    clear K ho
    go_enter Tryz.func18, Tryz.ntmps18
    go_wp2_with (go_at_call 49; refine (unhide HE).mono ?_; rintro e w' ⟨rfl, hk, ho⟩)
    go_ret
    rw [(unhide HR).1, (unhide HR).2]
    refine ⟨rfl, ⟨bw, bv, ov, hk⟩, ho.mono (fun x _ q r => (unhide HXn) x r ?_)⟩
    rcases q with q | q
    · exact .inl q
    · exact .inr (.inl q)
end Go.Proofs.YtnkaooafenakdaaGreatDoor
