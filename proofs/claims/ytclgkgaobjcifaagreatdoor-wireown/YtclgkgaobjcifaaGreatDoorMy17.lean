import Derived.Test.YtclgkgaobjcifaaGreatDoorMy16
namespace Go.Proofs.YtclgkgaobjcifaaGreatDoor
open Go.RowKit
set_option maxRecDepth 100000
/-- what a reply's frame says -/
structure PR where
  qu : Int
  ch : Int
  no : Int
  wr : ByteArray
  da : ByteArray
  V : List Int
  Pl : List Int
def PR.bare : PR := ⟨0, 0, 0, ⟨#[]⟩, ⟨#[]⟩, [], []⟩
/-- may a field be taken here? and what is said then -/
def okP (f : Fld) (s : ByteArray) (i : Nat) : Bool := if f.k = 0 then decide ((f.lo : Int) ≤ beN (tkB s i f.b) ∧ beN (tkB s i f.b) ≤ (f.hi : Int)) else if f.k = 3 then vtB s i else true
def upP (f : Fld) (a : PR) (s : ByteArray) (i : Nat) : PR :=
  if f.ty = 122 then { a with qu := beN (tkB s i f.b) }
  else if f.ty = 123 then { a with ch := beN (tkB s i f.b) }
  else if f.ty = 136 then { a with V := tkB s (i + 1) (vtN s i) }
  else if f.ty = 126 then { a with no := beN (tkB s i f.b) }
  else if f.ty = 135 then { a with Pl := tkB s i 8 }
  else if f.ty = 131 then { a with wr := s.extract i (i + f.b) }
  else { a with da := s.extract i (i + f.b) }
def takeP : List Fld → PR → ByteArray → Nat → Option PR
  | [], a, _, _ => some a
  | f :: fs, a, s, i => if okP f s i = true then takeP fs (upP f a s i) s (i + f.b) else none
/-- numbers in a row of one's own -/
def OwnL (w : World) (N : Nat) (p : Option Addr) (m c : Nat) (V : List Int) : Prop := m = V.length ∧ w.ownsRow N 3 1 (.slice p m c) m (V.map (Value.int .i64))
theorem OwnL.nil (w : World) (N : Nat) : OwnL w N none 0 0 [] := ⟨rfl, World.ownsRow_nil _ _ _ _⟩
theorem OwnL.only {w w' : World} {P : Nat → Prop} {N : Nat} {p : Option Addr} {m c : Nat} {V : List Int} (h : OwnL w N p m c V) (ho : Only P w w') (hp : ∀ k, N ≤ k → k < w.heap.size → ¬ P k) : OwnL w' N p m c V := by
  refine ⟨h.1, own_onlyW h.2 ho (fun k hk => ?_)⟩
  rcases h.2.2 with ⟨h1, h0⟩ | ⟨g, cap, cur, h1, hb, hg, hn, hc, hs, hx⟩
  · rw [h1] at hk; simp [Value.ownBlock] at hk
  · rw [h1] at hk
    have e : k = g := by simpa [Value.ownBlock, eq_comm] using hk
    subst e
    exact hp k hb (show Blk w k cur 3 from hg).lt
theorem OwnL.below {w w' : World} {B N : Nat} {p : Option Addr} {m c : Nat} {V : List Int} (h : OwnL w N p m c V) (hb : Below B w w') (hB : w.heap.size ≤ B) : OwnL w' N p m c V := h.only (Only.of_below (P := fun _ => False) (hb.mono hB)) (fun _ _ _ q => q)
theorem OwnL.base {w : World} {N N' : Nat} {p : Option Addr} {m c : Nat} {V : List Int} (h : OwnL w N p m c V) (hb : N' ≤ N) : OwnL w N' p m c V := ⟨h.1, own_baseW h.2 hb⟩
theorem OwnL.lst {w : World} {N : Nat} {p : Option Addr} {m c : Nat} {V : List Int} (h : OwnL w N p m c V) : Lst w w.heap.size p V := own_lstN h.1.symm h.2
/-- a reply in memory that says this -/
structure RM (st : Int) (N : Nat) (r : Rep) (a : PR) (w : World) : Prop where
  st : r.st = st
  qu : r.qu = a.qu
  ch : r.ch = a.ch
  no : r.no = a.no
  wr : r.wr = a.wr
  da : r.da = a.da
  v : OwnL w N r.vp r.vm r.vc a.V
  p : OwnL w N r.pp r.pm r.pc a.Pl
  ne : ∀ b, (Value.slice r.vp r.vm r.vc).ownBlock = some b → (Value.slice r.pp r.pm r.pc).ownBlock ≠ some b
theorem RM.bare (st : Int) (N : Nat) (w : World) : RM st N (Rep.bare st) PR.bare w := ⟨rfl, rfl, rfl, rfl, rfl, rfl, OwnL.nil _ _, OwnL.nil _ _, fun b hb => by cases hb⟩
theorem RM.only {st : Int} {w w' : World} {P : Nat → Prop} {N : Nat} {r : Rep} {a : PR} (h : RM st N r a w) (ho : Only P w w') (hp : ∀ k, N ≤ k → k < w.heap.size → ¬ P k) : RM st N r a w' := ⟨h.st, h.qu, h.ch, h.no, h.wr, h.da, h.v.only ho hp, h.p.only ho hp, h.ne⟩
theorem RM.below {st : Int} {w w' : World} {B : Nat} {N : Nat} {r : Rep} {a : PR} (h : RM st N r a w) (hb : Below B w w') (hB : w.heap.size ≤ B) : RM st N r a w' := ⟨h.st, h.qu, h.ch, h.no, h.wr, h.da, h.v.below hb hB, h.p.below hb hB, h.ne⟩
theorem RM.base {st : Int} {w : World} {N N' : Nat} {r : Rep} {a : PR} (h : RM st N r a w) (hb : N' ≤ N) : RM st N' r a w := ⟨h.st, h.qu, h.ch, h.no, h.wr, h.da, h.v.base hb, h.p.base hb, h.ne⟩
/-- both lists lie below a bound -/
def Rep.under (r : Rep) (M : Nat) : Prop := ∀ b, (Value.slice r.vp r.vm r.vc).ownBlock = some b ∨ (Value.slice r.pp r.pm r.pc).ownBlock = some b → b < M
theorem RM.lts {st : Int} {N M : Nat} {r : Rep} {a : PR} {w : World} (h : RM st N r a w) (hM : w.heap.size ≤ M) : r.under M := fun b hb => by
  rcases hb with q | q
  · have := (h.v.2.lt b q).2
    omega
  · have := (h.p.2.lt b q).2
    omega
/-- what a part is that was taken -/
def PM (f : Fld) (p : Prt) (s : ByteArray) (i N : Nat) (w : World) : Prop := if f.k = 0 then p.n = beN (tkB s i f.b) else if f.k = 1 then p.t = s.extract i (i + f.b) else if f.k = 2 then OwnL w N p.p p.m p.c (tkB s i 8) else OwnL w N p.p p.m p.c (tkB s (i + 1) (vtN s i))
theorem RM.step {st : Int} {N M : Nat} {r : Rep} {a : PR} {w : World} (h : RM st N r a w) {f : Fld} (hf : IsP f) {p : Prt} {s : ByteArray} {i : Nat} (hp : PM f p s i M w) (hM : N ≤ M) (hz : r.under M) : RM st N (exr f r p).1 (upP f a s i) w := by
  rcases hf with rfl | rfl | rfl | rfl | rfl | rfl | rfl
  · exact ⟨h.st, hp, h.ch, h.no, h.wr, h.da, h.v, h.p, h.ne⟩
  · exact ⟨h.st, h.qu, hp, h.no, h.wr, h.da, h.v, h.p, h.ne⟩
  · exact ⟨h.st, h.qu, h.ch, h.no, h.wr, h.da, OwnL.base hp hM, h.p, fun b h1 h2 => by
      have q1 := ((show OwnL w M p.p p.m p.c _ from hp).2.lt b h1).1
      have q2 := hz b (.inr h2)
      omega⟩
  · exact ⟨h.st, h.qu, h.ch, hp, h.wr, h.da, h.v, h.p, h.ne⟩
  · exact ⟨h.st, h.qu, h.ch, h.no, h.wr, h.da, h.v, OwnL.base hp hM, fun b h1 h2 => by
      have q1 := ((show OwnL w M p.p p.m p.c _ from hp).2.lt b h2).1
      have q2 := hz b (.inl h1)
      omega⟩
  · exact ⟨h.st, h.qu, h.ch, h.no, hp, h.da, h.v, h.p, h.ne⟩
  · exact ⟨h.st, h.qu, h.ch, h.no, h.wr, hp, h.v, h.p, h.ne⟩
/-- what a field's take answers -/
def TkP (f : Fld) (b : Nat) (s : ByteArray) (i m N : Nat) (w : World) (e : Ending) (w' : World) : Prop := ∃ (P : Prt) (B : Bool), e = .returned (.tuple #[.agg P.cs, .bool B]) ∧ B = okP f s i ∧ (B = true → At w' b s (i + m)) ∧ Only (fun j => j = b) w w' ∧ (B = true → PM f P s i N w')
/-- what takeReply answers -/
def TrP (O : Option PR) (st : Int) (N b : Nat) (w : World) (e : Ending) (w' : World) : Prop := ∃ (r : Rep) (B : Bool), e = .returned (.tuple #[.agg r.cs, .bool B]) ∧ Only (fun j => j = b) w w' ∧ ((O = none ∧ B = false ∧ r = Rep.bare 0) ∨ ∃ a, O = some a ∧ B = true ∧ RM st N r a w')
theorem TrP.no {O : Option PR} {st : Int} {N b : Nat} {w w' : World} (h : none = O) (ho : Only (fun j => j = b) w w') : TrP O st N b w (.returned (.tuple #[.agg (Rep.bare 0).cs, .bool false])) w' := ⟨Rep.bare 0, false, rfl, ho, .inl ⟨h.symm, rfl, rfl⟩⟩
theorem TrP.yes {O : Option PR} {st : Int} {N b : Nat} {w w' : World} {r : Rep} {a : PR} (h : some a = O) (ho : Only (fun j => j = b) w w') (hm : RM st N r a w') : TrP O st N b w (.returned (.tuple #[.agg r.cs, .bool true])) w' := ⟨r, true, rfl, ho, .inr ⟨a, h.symm, rfl, hm⟩⟩
end Go.Proofs.YtclgkgaobjcifaaGreatDoor
