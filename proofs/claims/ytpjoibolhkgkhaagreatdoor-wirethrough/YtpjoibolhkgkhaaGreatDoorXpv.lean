import Derived.Test.YtpjoibolhkgkhaaGreatDoorXpu
namespace Go.Proofs.YtpjoibolhkgkhaaGreatDoor
open Go.RowKit
/-- a reply; its lists by their slices -/
structure Rep where
  st : Int
  qu : Int
  ch : Int
  vp : Option Addr
  vm : Nat
  vc : Nat
  no : Int
  pp : Option Addr
  pm : Nat
  pc : Nat
  wr : ByteArray
  da : ByteArray
def Rep.cs (r : Rep) : Array Value := #[.int .i64 r.st, .int .i64 r.qu, .int .i64 r.ch, .slice r.vp r.vm r.vc, .int .i64 r.no, .slice r.pp r.pm r.pc, .string r.wr, .string r.da]
def Rep.bare (s : Int) : Rep := ⟨s, 0, 0, none, 0, 0, 0, none, 0, 0, ⟨#[]⟩, ⟨#[]⟩⟩
/-- a reply with another part in the stead of a field's, and that one -/
def exr (f : Fld) (r : Rep) (p : Prt) : Rep × Prt :=
  if f.ty = 122 then ({ r with qu := p.n }, Prt.num r.qu)
  else if f.ty = 123 then ({ r with ch := p.n }, Prt.num r.ch)
  else if f.ty = 136 then ({ r with vp := p.p, vm := p.m, vc := p.c }, ⟨0, ⟨#[]⟩, r.vp, r.vm, r.vc⟩)
  else if f.ty = 126 then ({ r with no := p.n }, Prt.num r.no)
  else if f.ty = 135 then ({ r with pp := p.p, pm := p.m, pc := p.c }, ⟨0, ⟨#[]⟩, r.pp, r.pm, r.pc⟩)
  else if f.ty = 131 then ({ r with wr := p.t }, Prt.txt r.wr)
  else ({ r with da := p.t }, Prt.txt r.da)
/-- has a reply nothing but its status? -/
def bareP (r : Rep) : Bool := decide (r.qu = 0 ∧ r.ch = 0 ∧ r.vm = 0 ∧ r.no = 0 ∧ r.pm = 0 ∧ r.wr = ⟨#[]⟩ ∧ r.da = ⟨#[]⟩)
end Go.Proofs.YtpjoibolhkgkhaaGreatDoor
