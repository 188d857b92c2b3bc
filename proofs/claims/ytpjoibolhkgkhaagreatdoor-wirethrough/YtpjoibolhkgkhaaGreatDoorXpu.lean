import Derived.Test.YtpjoibolhkgkhaaGreatDoorWok
import Derived.Test.YtpjoibolhkgkhaaGreatDoorChk
namespace Go.Proofs.YtpjoibolhkgkhaaGreatDoor
open Go.RowKit
structure Fld where
  ty : Nat
  k : Nat
  b : Nat
  lo : Nat
  hi : Nat
def fTen : Fld := ⟨121, 0, 1, 1, 8⟩
def fQuo : Fld := ⟨122, 0, 2, 0, 65535⟩
def fCha : Fld := ⟨123, 0, 2, 0, 65535⟩
def fVol : Fld := ⟨124, 0, 1, 1, 99⟩
def fBlo : Fld := ⟨125, 0, 1, 0, 255⟩
def fNon : Fld := ⟨126, 0, 4, 0, 4294967295⟩
def fDig : Fld := ⟨130, 1, 32, 0, 0⟩
def fWra : Fld := ⟨131, 1, 48, 0, 0⟩
def fSam : Fld := ⟨132, 1, 8, 0, 0⟩
def fDat : Fld := ⟨133, 1, 256, 0, 0⟩
def fPla : Fld := ⟨135, 2, 8, 0, 0⟩
def fVos : Fld := ⟨136, 3, 9, 0, 0⟩
/-- what a field is in memory: its cells, and the interface value that holds it -/
def Fld.cs (f : Fld) : Array Value := if f.k = 0 then #[.int .i64 (f.b : Int), .int .i64 (f.lo : Int), .int .i64 (f.hi : Int)] else if f.k = 1 then #[.int .i64 (f.b : Int)] else #[]
def fv (f : Fld) : Value := .iface f.ty (.agg f.cs)
/-- one of the twelve -/
def IsF (f : Fld) : Prop := f = fTen ∨ f = fQuo ∨ f = fCha ∨ f = fVol ∨ f = fBlo ∨ f = fNon ∨ f = fDig ∨ f = fWra ∨ f = fSam ∨ f = fDat ∨ f = fPla ∨ f = fVos
/-- one of a request's nine -/
def IsQ (f : Fld) : Prop := f = fTen ∨ f = fQuo ∨ f = fVol ∨ f = fBlo ∨ f = fNon ∨ f = fDig ∨ f = fWra ∨ f = fSam ∨ f = fDat
/-- one of a reply's seven -/
def IsP (f : Fld) : Prop := f = fQuo ∨ f = fCha ∨ f = fVos ∨ f = fNon ∨ f = fPla ∨ f = fWra ∨ f = fDat
/-- the fields of a request of a kind, of a reply to a kind -/
def rqF (k : Int) : List Fld := if k = 1 then [fTen, fQuo] else if k = 2 ∨ k = 3 then [fTen] else if k = 4 ∨ k = 5 then [fVol] else if k = 8 then [fVol, fBlo, fDig, fWra] else if k = 9 then [fNon, fSam] else if k = 10 then [fVol, fBlo, fWra, fDat] else if k = 11 ∨ k = 12 then [fVol, fBlo] else []
def rpF (k : Int) : List Fld := if k = 3 then [fQuo, fCha, fVos] else if k = 6 then [fVos] else if k = 7 then [fQuo, fCha] else if k = 8 then [fNon, fPla] else if k = 11 then [fWra, fDat] else []
/-- how many bytes fields have -/
def szF : List Fld → Nat
  | [] => 0
  | f :: fs => f.b + szF fs
theorem IsQ.isF {f : Fld} (h : IsQ f) : IsF f := by rcases h with rfl | rfl | rfl | rfl | rfl | rfl | rfl | rfl | rfl <;> simp [IsF]
theorem IsP.isF {f : Fld} (h : IsP f) : IsF f := by rcases h with rfl | rfl | rfl | rfl | rfl | rfl | rfl <;> simp [IsF]
theorem rqF_all (k : Int) : ∀ f ∈ rqF k, IsQ f := by
  unfold rqF
  intro f hf
  (repeat' split at hf) <;> simp at hf <;> unfold IsQ <;> (try rcases hf with rfl | rfl | rfl | rfl) <;> (try rcases hf with rfl | rfl) <;> (try subst hf) <;> simp
theorem rpF_all (k : Int) : ∀ f ∈ rpF k, IsP f := by
  unfold rpF
  intro f hf
  (repeat' split at hf) <;> simp at hf <;> unfold IsP <;> (try rcases hf with rfl | rfl | rfl) <;> (try rcases hf with rfl | rfl) <;> (try subst hf) <;> simp
theorem isF_b {f : Fld} (h : IsF f) : 1 ≤ f.b ∧ f.b ≤ 256 := by
  rcases h with rfl | rfl | rfl | rfl | rfl | rfl | rfl | rfl | rfl | rfl | rfl | rfl <;> exact ⟨by decide, by decide⟩
theorem rqF_len (k : Int) : (rqF k).length ≤ 4 := by unfold rqF; (repeat' split) <;> simp
theorem rpF_len (k : Int) : (rpF k).length ≤ 4 := by unfold rpF; (repeat' split) <;> simp
theorem szF_le (fs : List Fld) (h : ∀ f ∈ fs, IsF f) : szF fs ≤ 256 * fs.length := by
  induction fs with
  | nil => simp [szF]
  | cons f fs ih =>
    have := (isF_b (h f (by simp))).2
    have := ih (fun g hg => h g (by simp [hg]))
    simp only [szF, List.length_cons]; omega
theorem szF_snoc (fs : List Fld) (i : Nat) (hi : i < fs.length) : szF (fs.take (i + 1)) = szF (fs.take i) + (fs[i]).b := by
  induction fs generalizing i with
  | nil => simp at hi
  | cons f fs ih =>
    cases i with
    | zero => simp [szF]
    | succ i =>
      simp only [List.take_succ_cons, szF, List.getElem_cons_succ]
      rw [ih i (by simpa using hi)]; omega
/-- a row of fields in memory -/
def FR (w : World) (v : Value) (fs : List Fld) : Prop := (fs = [] ∧ v = .slice none 0 0) ∨ ∃ b, v = .slice (some ⟨b, 0, none⟩) fs.length fs.length ∧ Blk w b (fs.map fv).toArray 101
def FRn (v : Value) (n : Nat) : Prop := ∃ p, v = .slice p n n
theorem FR.form {w : World} {v : Value} {fs : List Fld} (h : FR w v fs) : ∃ p, v = .slice p fs.length fs.length ∧ (0 < fs.length → ∃ b, p = some ⟨b, 0, none⟩ ∧ Blk w b (fs.map fv).toArray 101) := by
  rcases h with ⟨rfl, rfl⟩ | ⟨b, rfl, hb⟩
  · exact ⟨none, rfl, fun h => absurd h (by simp)⟩
  · exact ⟨_, rfl, fun _ => ⟨b, rfl, hb⟩⟩
theorem FR.below {w w' : World} {B : Nat} {v : Value} {fs : List Fld} (h : FR w v fs) (hb : Below B w w') (hB : ∀ b, v.ownBlock = some b → b < B) : FR w' v fs := by
  rcases h with ⟨rfl, rfl⟩ | ⟨b, rfl, h⟩
  · exact .inl ⟨rfl, rfl⟩
  · exact .inr ⟨b, rfl, h.below hb (hB b (by simp [Value.ownBlock]))⟩
theorem FR.only {w w' : World} {P : Nat → Prop} {v : Value} {fs : List Fld} (h : FR w v fs) (ho : Only P w w') (hp : ∀ b, v.ownBlock = some b → ¬ P b) : FR w' v fs := by
  rcases h with ⟨rfl, rfl⟩ | ⟨b, rfl, h⟩
  · exact .inl ⟨rfl, rfl⟩
  · exact .inr ⟨b, rfl, h.only ho (hp b (by simp [Value.ownBlock]))⟩
theorem FR.lt {w : World} {v : Value} {fs : List Fld} (h : FR w v fs) : ∀ b, v.ownBlock = some b → b < w.heap.size := by
  rcases h with ⟨rfl, rfl⟩ | ⟨b, rfl, h⟩
  · intro b hb; simp [Value.ownBlock] at hb
  · intro c hc; simp [Value.ownBlock] at hc; subst hc; exact h.lt
/-- a request -/
structure Req where
  kd : Int
  te : Int
  qu : Int
  vo : Int
  bl : Int
  no : Int
  di : ByteArray
  wr : ByteArray
  sa : ByteArray
  da : ByteArray
def Req.cs (r : Req) : Array Value := #[.int .i64 r.kd, .int .i64 r.te, .int .i64 r.qu, .int .i64 r.vo, .int .i64 r.bl, .int .i64 r.no, .string r.di, .string r.wr, .string r.sa, .string r.da]
def Req.bare (k : Int) : Req := ⟨k, 0, 0, 0, 0, 0, ⟨#[]⟩, ⟨#[]⟩, ⟨#[]⟩, ⟨#[]⟩⟩
/-- a part of a request or a reply: a number, a text, a list (its slice) -/
structure Prt where
  n : Int
  t : ByteArray
  p : Option Addr
  m : Nat
  c : Nat
def Prt.cs (p : Prt) : Array Value := #[.int .i64 p.n, .string p.t, .slice p.p p.m p.c]
def Prt.nil : Prt := ⟨0, ⟨#[]⟩, none, 0, 0⟩
def Prt.num (n : Int) : Prt := ⟨n, ⟨#[]⟩, none, 0, 0⟩
def Prt.txt (t : ByteArray) : Prt := ⟨0, t, none, 0, 0⟩
/-- a request with another part in the stead of a field's, and that one -/
def exq (f : Fld) (r : Req) (p : Prt) : Req × Prt :=
  if f.ty = 121 then ({ r with te := p.n }, Prt.num r.te)
  else if f.ty = 122 then ({ r with qu := p.n }, Prt.num r.qu)
  else if f.ty = 124 then ({ r with vo := p.n }, Prt.num r.vo)
  else if f.ty = 125 then ({ r with bl := p.n }, Prt.num r.bl)
  else if f.ty = 126 then ({ r with no := p.n }, Prt.num r.no)
  else if f.ty = 130 then ({ r with di := p.t }, Prt.txt r.di)
  else if f.ty = 131 then ({ r with wr := p.t }, Prt.txt r.wr)
  else if f.ty = 132 then ({ r with sa := p.t }, Prt.txt r.sa)
  else ({ r with da := p.t }, Prt.txt r.da)
/-- may a field that is a number or a text be this part? and its bytes -/
def okF (f : Fld) (p : Prt) : Bool := if f.k = 0 then decide ((f.lo : Int) ≤ p.n ∧ p.n ≤ (f.hi : Int)) else decide (p.t.size = f.b)
def byF (f : Fld) (p : Prt) : List Int := if f.k = 0 then numB p.n f.b else nums p.t
/-- fields laid down: what is left of the request, and the bytes -/
def layQ : List Fld → Req → Option (Req × List Int)
  | [], r => some (r, [])
  | f :: fs, r => if okF f (exq f r Prt.nil).2 then (layQ fs (exq f r Prt.nil).1).map (fun x => (x.1, byF f (exq f r Prt.nil).2 ++ x.2)) else none
end Go.Proofs.YtpjoibolhkgkhaaGreatDoor
