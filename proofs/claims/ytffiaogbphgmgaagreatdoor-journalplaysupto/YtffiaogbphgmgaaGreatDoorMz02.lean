import Derived.Shelf.LaysM
import Derived.Shelf.Strconv.Clone
import Derived.Shelf.Bits.Mul64
import Derived.Shelf.Strings.Repeat
import Derived.Ground.Names2Prog
import Derived.Shelf.Slices.Clone
import Derived.Test.YtffiaogbphgmgaaGreatDoorProg
import Derived.Test.YtffiaogbphgmgaaGreatDoorMz00
import Derived.Test.YtffiaogbphgmgaaGreatDoorMz01
/-
  DERIVED: THE SHELF's CONTRACTS AT THIS DUMP, IN PLAIN WORDS (tools/lay-plain.mjs out of 'TryzShelf.lean', which tools/lay-shelf.mjs wrote): THE SAME DECLARATIONS UNDER THE SAME NAMES: 'import', 'namespace', 'open', 'def', 'theorem' AND NOTHING ELSE: no command of the shelf's: FOR A HAND-IN. Each laying: the table of numbers ('.._ren') and one theorem, a field a fact of the dump's own or the kernel's comparison; each contract: ONE APPLICATION.
-/
namespace Go.Proofs.YtffiaogbphgmgaaGreatDoor
open Go.Shelf
def Tryz.laysM316_ren : Go.Shelf.Ren := ⟨fun | 316 => 121 | n => n, fun | 9 => 9 | 3 => 3 | 4 => 4 | 37 => 67 | 0 => 0 | 127 => 155 | 5 => 5 | n => n, fun | n => n⟩
theorem Tryz.laysM316 : Go.Proofs.LaysM.n316 Tryz.prog Tryz.laysM316_ren := {
  mixed := by kernel_rfl
  f316 := Tryz.func121.trans (congrArg some (by kernel_rfl))
  t0 := Tryz.underlying0
  a0 := Tryz.isAgg0
  z0 := Tryz.sizeOf0
  v0 := Tryz.zeroValue0
  t3 := Tryz.underlying3
  a3 := Tryz.isAgg3
  z3 := Tryz.sizeOf3
  v3 := Tryz.zeroValue3
  t4 := Tryz.underlying4
  a4 := Tryz.isAgg4
  z4 := Tryz.sizeOf4
  v4 := Tryz.zeroValue4
  t9 := Tryz.underlying9
  a9 := Tryz.isAgg9
  z9 := Tryz.sizeOf9
  v9 := Tryz.zeroValue9
  t37 := Tryz.underlying67
  a37 := Tryz.isAgg67
  z37 := Tryz.sizeOf67
  v37 := Tryz.zeroValue67
  t127 := Tryz.underlying155
  a127 := Tryz.isAgg155
  z127 := Tryz.sizeOf155
  v127 := Tryz.zeroValue155
  t5 := Tryz.underlying5
  a5 := Tryz.isAgg5
  z5 := Tryz.sizeOf5
  v5 := Tryz.zeroValue5
  i0 := by kernel_rfl
  i3 := by kernel_rfl
  i4 := by kernel_rfl
  i5 := by kernel_rfl
  i9 := by kernel_rfl
  i37 := by kernel_rfl
  i127 := by kernel_rfl }
open Go.RowKit in
/-- internal/stringslite.Clone (what strings.Clone calls): "Clone returns a fresh copy of s.": THE SAME BYTES. Of what was there nothing has turned (a new row is laid, and frozen, where s is not empty). (LAID: no walk: one application.) -/
theorem Tryz.stringslite_Clone (s : ByteArray) (w : World) (hlim : s.size ≤ 281474976710656) :
    Calls Tryz.prog 121 #[.string s] w fun e w' => e = .returned (.string s) ∧ Below w.heap.size w w' := Any.stringslite_Clone Tryz.laysM316 s w hlim
def Tryz.lays264_ren : Go.Shelf.Ren := ⟨fun | 264 => 97 | n => n, fun | 53 => 152 | 46 => 103 | n => n, fun | n => n⟩
theorem Tryz.lays264 : Go.Proofs.Lays.n264 Tryz.prog Tryz.lays264_ren := {
  mixed := by kernel_rfl
  f264 := Tryz.func97.trans (congrArg some (by kernel_rfl))
  t46 := Tryz.underlying103
  a46 := Tryz.isAgg103
  z46 := Tryz.sizeOf103
  v46 := Tryz.zeroValue103
  t53 := Tryz.underlying152
  a53 := Tryz.isAgg152
  z53 := Tryz.sizeOf152
  v53 := Tryz.zeroValue152 }
open Go.RowKit Go.Lib in
theorem Tryz.bits_Mul64 (x y : Nat) (hx : x < 18446744073709551616) (hy : y < 18446744073709551616) (w : World) :
    Calls Tryz.prog 97 #[.int .u64 x, .int .u64 y] w fun e w' => e = .returned (.tuple #[.int .u64 ((x * y / 18446744073709551616 : Nat) : Int), .int .u64 ((x * y % 18446744073709551616 : Nat) : Int)]) ∧ w' = w := Any.bits_Mul64 Tryz.lays264 x y hx hy w
def Tryz.lays212_ren : Go.Shelf.Ren := ⟨fun | 212 => 56 | 263 => 96 | 264 => 97 | n => n, fun | 46 => 103 | 51 => 90 | 146 => 150 | 53 => 152 | 148 => 153 | n => n, fun | n => n⟩
theorem Tryz.lays212 : Go.Proofs.Lays.n212 Tryz.prog Tryz.lays212_ren := {
  mixed := by kernel_rfl
  f212 := Tryz.func56.trans (congrArg some (by kernel_rfl))
  f263 := Tryz.func96.trans (congrArg some (by kernel_rfl))
  f264 := Tryz.func97.trans (congrArg some (by kernel_rfl))
  t46 := Tryz.underlying103
  a46 := Tryz.isAgg103
  z46 := Tryz.sizeOf103
  v46 := Tryz.zeroValue103
  t51 := Tryz.underlying90
  a51 := Tryz.isAgg90
  z51 := Tryz.sizeOf90
  v51 := Tryz.zeroValue90
  t53 := Tryz.underlying152
  a53 := Tryz.isAgg152
  z53 := Tryz.sizeOf152
  v53 := Tryz.zeroValue152
  t146 := Tryz.underlying150
  a146 := Tryz.isAgg150
  z146 := Tryz.sizeOf150
  v146 := Tryz.zeroValue150
  t148 := Tryz.underlying153
  a148 := Tryz.isAgg153
  z148 := Tryz.sizeOf153
  v148 := Tryz.zeroValue153 }
open Go.RowKit Go.Lib in
/-- math/bits.Mul: "Mul returns the full-width product of x and y": on a machine of 64 bits: Mul64's. (LAID: no walk: one application.) -/
theorem Tryz.bits_Mul (x y : Nat) (hx : x < 18446744073709551616) (hy : y < 18446744073709551616) (w : World) :
    Calls Tryz.prog 56 #[.int .u64 x, .int .u64 y] w fun e w' => e = .returned (.tuple #[.int .u64 ((x * y / 18446744073709551616 : Nat) : Int), .int .u64 ((x * y % 18446744073709551616 : Nat) : Int)]) ∧ w' = w := Any.bits_Mul Tryz.lays212 x y hx hy w
def Tryz.lays105_ren : Go.Shelf.Ren := ⟨fun | 105 => 17 | 212 => 56 | 99 => 57 | 165 => 58 | 166 => 59 | 170 => 60 | 169 => 61 | 263 => 96 | 264 => 97 | 206 => 98 | 240 => 99 | 241 => 100 | 276 => 119 | 277 => 120 | n => n, fun | 9 => 9 | 3 => 3 | 4 => 4 | 20 => 20 | 0 => 0 | 46 => 103 | 109 => 104 | 5 => 5 | 72 => 109 | 76 => 113 | 51 => 90 | 146 => 150 | 53 => 152 | 148 => 153 | 70 => 107 | 37 => 67 | 75 => 112 | 127 => 155 | 164 => 170 | 80 => 53 | n => n, fun | n => n⟩
theorem Tryz.lays105 : Go.Proofs.Lays.n105 Tryz.prog Tryz.lays105_ren := {
  mixed := by kernel_rfl
  f99 := Tryz.func57.trans (congrArg some (by kernel_rfl))
  f105 := Tryz.func17.trans (congrArg some (by kernel_rfl))
  f165 := Tryz.func58.trans (congrArg some (by kernel_rfl))
  f166 := Tryz.func59.trans (congrArg some (by kernel_rfl))
  f169 := Tryz.func61.trans (congrArg some (by kernel_rfl))
  f170 := Tryz.func60.trans (congrArg some (by kernel_rfl))
  f206 := Tryz.func98.trans (congrArg some (by kernel_rfl))
  f212 := Tryz.func56.trans (congrArg some (by kernel_rfl))
  f240 := Tryz.func99.trans (congrArg some (by kernel_rfl))
  f241 := Tryz.func100.trans (congrArg some (by kernel_rfl))
  f263 := Tryz.func96.trans (congrArg some (by kernel_rfl))
  f264 := Tryz.func97.trans (congrArg some (by kernel_rfl))
  f276 := Tryz.func119.trans (congrArg some (by kernel_rfl))
  f277 := Tryz.func120.trans (congrArg some (by kernel_rfl))
  t0 := Tryz.underlying0
  a0 := Tryz.isAgg0
  z0 := Tryz.sizeOf0
  v0 := Tryz.zeroValue0
  t3 := Tryz.underlying3
  a3 := Tryz.isAgg3
  z3 := Tryz.sizeOf3
  v3 := Tryz.zeroValue3
  t4 := Tryz.underlying4
  a4 := Tryz.isAgg4
  z4 := Tryz.sizeOf4
  v4 := Tryz.zeroValue4
  t5 := Tryz.underlying5
  a5 := Tryz.isAgg5
  z5 := Tryz.sizeOf5
  v5 := Tryz.zeroValue5
  t9 := Tryz.underlying9
  a9 := Tryz.isAgg9
  z9 := Tryz.sizeOf9
  v9 := Tryz.zeroValue9
  t20 := Tryz.underlying20
  a20 := Tryz.isAgg20
  z20 := Tryz.sizeOf20
  v20 := Tryz.zeroValue20
  t37 := Tryz.underlying67
  a37 := Tryz.isAgg67
  z37 := Tryz.sizeOf67
  v37 := Tryz.zeroValue67
  t46 := Tryz.underlying103
  a46 := Tryz.isAgg103
  z46 := Tryz.sizeOf103
  v46 := Tryz.zeroValue103
  t51 := Tryz.underlying90
  a51 := Tryz.isAgg90
  z51 := Tryz.sizeOf90
  v51 := Tryz.zeroValue90
  t53 := Tryz.underlying152
  a53 := Tryz.isAgg152
  z53 := Tryz.sizeOf152
  v53 := Tryz.zeroValue152
  t70 := Tryz.underlying107
  a70 := Tryz.isAgg107
  z70 := Tryz.sizeOf107
  v70 := Tryz.zeroValue107
  t72 := Tryz.underlying109
  a72 := Tryz.isAgg109
  z72 := Tryz.sizeOf109
  v72 := Tryz.zeroValue109
  t75 := Tryz.underlying112
  a75 := Tryz.isAgg112
  z75 := Tryz.sizeOf112
  v75 := Tryz.zeroValue112
  t76 := Tryz.underlying113
  a76 := Tryz.isAgg113
  z76 := Tryz.sizeOf113
  v76 := Tryz.zeroValue113
  t109 := Tryz.underlying104
  a109 := Tryz.isAgg104
  z109 := Tryz.sizeOf104
  v109 := Tryz.zeroValue104
  t127 := Tryz.underlying155
  a127 := Tryz.isAgg155
  z127 := Tryz.sizeOf155
  v127 := Tryz.zeroValue155
  t146 := Tryz.underlying150
  a146 := Tryz.isAgg150
  z146 := Tryz.sizeOf150
  v146 := Tryz.zeroValue150
  t148 := Tryz.underlying153
  a148 := Tryz.isAgg153
  z148 := Tryz.sizeOf153
  v148 := Tryz.zeroValue153
  t164 := Tryz.underlying170
  a164 := Tryz.isAgg170
  z164 := Tryz.sizeOf170
  v164 := Tryz.zeroValue170 }
theorem Tryz.Builder_Extra_105 : Builder.Extra Tryz.prog Tryz.lays105_ren := {
  sizeBuilder := by kernel_rfl
  liesBuilder := by kernel_rfl
  t5 := Tryz.underlying5
  a5 := Tryz.isAgg5
  z5 := Tryz.sizeOf5
  v5 := Tryz.zeroValue5
  infoByte := by kernel_rfl
  cellsByte := by kernel_rfl
  sizeByte := by kernel_rfl
  neB5 := by decide }
open Go.RowKit Go.Lib in
/-- THE MAIN CASE: at least two copies of a string that is not empty. (LAID: no walk: one application.) -/
theorem Tryz.strings_Repeat_main (s : ByteArray) (c : Nat) (w : World) (hc2 : 2 ≤ c) (hc : c ≤ 9223372036854775807) (hlen : s.size * c ≤ 140737488355328) (h0 : 0 < s.size) :
    Calls Tryz.prog 17 #[.string s, .int .i64 c] w fun e w' => e = .returned (.string ⟨(Lib.repeatL s.data.toList c).toArray⟩) ∧ Below w.heap.size w w' := Any.strings_Repeat_main Tryz.lays105 Tryz.Builder_Extra_105 s c w hc2 hc hlen h0
open Go.RowKit Go.Lib in
theorem Tryz.strings_Repeat_zero (s : ByteArray) (w : World) :
    Calls Tryz.prog 17 #[.string s, .int .i64 0] w fun e w' => e = .returned (.string ⟨#[]⟩) ∧ w' = w := Any.strings_Repeat_zero Tryz.lays105 s w
open Go.RowKit Go.Lib in
theorem Tryz.strings_Repeat_one (s : ByteArray) (w : World) :
    Calls Tryz.prog 17 #[.string s, .int .i64 1] w fun e w' => e = .returned (.string s) ∧ w' = w := Any.strings_Repeat_one Tryz.lays105 s w
open Go.RowKit Go.Lib in
/-- Copies of the empty string. (LAID: no walk: one application.) -/
theorem Tryz.strings_Repeat_empty (s : ByteArray) (c : Nat) (w : World) (hc2 : 2 ≤ c) (hc : c ≤ 9223372036854775807) (h0 : s.size = 0) :
    Calls Tryz.prog 17 #[.string s, .int .i64 c] w fun e w' => e = .returned (.string ⟨#[]⟩) ∧ w' = w := Any.strings_Repeat_empty Tryz.lays105 s c w hc2 hc h0
open Go.RowKit Go.Lib in
/-- count < 0: "It panics if count is negative". (LAID: no walk: one application.) -/
theorem Tryz.strings_Repeat_negative (s : ByteArray) (c : Int) (w : World) (hc : c < 0) :
    Calls Tryz.prog 17 #[.string s, .int .i64 c] w fun e w' => e = .panicked [{ v := repeatPanic Tryz.lays105_ren "strings: negative Repeat count", recovered := false }] ∧ w' = w := Any.strings_Repeat_negative Tryz.lays105 s c w hc
open Go.RowKit Go.Lib in
/-- len(s) * count is no int: ".. or if the result of (len(s) * count) overflows". (LAID: no walk: one application.) -/
theorem Tryz.strings_Repeat_overflow (s : ByteArray) (c : Nat) (w : World) (hc : c ≤ 9223372036854775807) (hs : s.size ≤ 9223372036854775807) (hbig : 9223372036854775807 < s.size * c) :
    Calls Tryz.prog 17 #[.string s, .int .i64 c] w fun e w' => e = .panicked [{ v := repeatPanic Tryz.lays105_ren "strings: Repeat output length overflow", recovered := false }] ∧ w' = w := Any.strings_Repeat_overflow Tryz.lays105 s c w hc hs hbig
open Go.RowKit Go.Lib in
/-- **strings.Repeat: count ≥ 0, the result within one allocation: count copies of s.** (LAID: no walk: one application.) -/
theorem Tryz.strings_Repeat (s : ByteArray) (c : Nat) (w : World) (hc : c ≤ 9223372036854775807) (hlen : s.size * c ≤ 140737488355328) :
    Calls Tryz.prog 17 #[.string s, .int .i64 c] w fun e w' => e = .returned (.string ⟨(Lib.repeatL s.data.toList c).toArray⟩) ∧ Below w.heap.size w w' := Any.strings_Repeat Tryz.lays105 Tryz.Builder_Extra_105 s c w hc hlen
def Tryz.laysNm216_ren : Go.Shelf.Ren := ⟨fun | 16 => 62 | n => n, fun | 24 => 56 | 9 => 9 | 4 => 4 | n => n, fun | n => n⟩
theorem Tryz.laysNm216 : Go.Proofs.Lays2.n16 Tryz.prog Tryz.laysNm216_ren := {
  mixed := by kernel_rfl
  f16 := Tryz.func62.trans (congrArg some (by kernel_rfl))
  t4 := Tryz.underlying4
  a4 := Tryz.isAgg4
  z4 := Tryz.sizeOf4
  v4 := Tryz.zeroValue4
  t9 := Tryz.underlying9
  a9 := Tryz.isAgg9
  z9 := Tryz.sizeOf9
  v9 := Tryz.zeroValue9
  t24 := Tryz.underlying56
  a24 := Tryz.isAgg56
  z24 := Tryz.sizeOf56
  v24 := Tryz.zeroValue56
  i9 := by kernel_rfl }
open Go.RowKit Go.Lib in
/-- slices.Clone at []string: "Clone returns a copy of the slice. The elements are copied using assignment, so this is a shallow clone. The result may have additional unused capacity. The result preserves the nilness of s.": OF A SLICE THAT IS NOT nil IT RETURNS A SLICE THAT IS NOT nil, OF THE SAME ELEMENTS, IN MEMORY OF THE CALL's OWN: in the how-to's words (6f): 'w'.ownsRow B e 1 v' n cells': v' begins at the head of a row among the blocks from B on (B: the heap's size at the call), not frozen, whose first cells are the elements · 'Below B w w'': below B all is as it was. The capacity is whatever the run-time gives. 'zs': what the cells behind the slice's address hold; 'zs.take n': its elements. (LAID: no walk: one application.) -/
theorem Tryz.slices_Clone_string (b off n c : Nat) (zs : List ByteArray) (w : World) (hz : n ≤ zs.length) (hbig : n * 16 ≤ 140737488355328) (hc : ∀ j, j < zs.length → w.cell? ⟨b, off + j, none⟩ = some (.string (zs.getD j ByteArray.empty))) :
    Calls Tryz.prog 62 #[.slice (some ⟨b, off, none⟩) n c] w fun e w' => ∃ v', e = .returned v' ∧ w'.ownsRow w.heap.size 9 1 v' n ((zs.take n).map (Value.string)) ∧ v' ≠ .slice none 0 0 ∧ Below w.heap.size w w' := Any.slices_Clone_string Tryz.laysNm216 b off n c zs w hz hbig hc
open Go.RowKit Go.Lib in
/-- The same at nil: nil comes back; the world is as it was. (LAID: no walk: one application.) -/
theorem Tryz.slices_Clone_string_nil (n c : Nat) (w : World) :
    Calls Tryz.prog 62 #[.slice none n c] w fun e w' => e = .returned (.slice none 0 0) ∧ w' = w := Any.slices_Clone_string_nil Tryz.laysNm216 n c w
open Go.RowKit Go.Lib in
/-- The same at a slice of length 0 that is not nil, WHATEVER ITS ADDRESS (no cell is asked for): a slice that is not nil and owns nothing comes back. (LAID: no walk: one application.) -/
theorem Tryz.slices_Clone_string_zero (a : Addr) (c : Nat) (w : World) :
    Calls Tryz.prog 62 #[.slice (some a) 0 c] w fun e w' => ∃ v', e = .returned v' ∧ w'.ownsRow w.heap.size 9 1 v' 0 [] ∧ v' ≠ .slice none 0 0 ∧ Below w.heap.size w w' := Any.slices_Clone_string_zero Tryz.laysNm216 a c w
end Go.Proofs.YtffiaogbphgmgaaGreatDoor

namespace Go.Proofs.YtffiaogbphgmgaaGreatDoor
open Go.RowKit
theorem wpAnyH_takeD {P : Program} {ops : Array Oper} {Q : Exit → Act → World → Prop} {md : Region.Mode} {S : World → Prop} (i : Nat) (d : Option Tmp) (v : Value) {oi : Oper} {fuel : Nat} {listed : Array Bool} {a : Act} {w : World} (hi : ops[i]? = some oi) (hd : oi.dst = d)
    (hs : Region.noSelect ops = true) (hf : Region.free md ops listed i = true) (hr : (Region.ready md ops listed).contains i = true)
    (hQ : ∀ c a w, Q (.panic c) (a.put d v) w → Q (.panic c) a w) (hy : YieldsIf P ops S oi v a) (hS : S w)
    (h : wpAnyH P md ops Q S fuel (listed.setIfInBounds i true) (a.put d v) w) : wpAnyH P md ops Q S (fuel + 1) listed a w := by
  subst hd
  exact wpAnyH_take hi hs hf hr hQ hy hS h
end Go.Proofs.YtffiaogbphgmgaaGreatDoor

namespace Go.Proofs.YtffiaogbphgmgaaGreatDoor
open Go.RowKit
set_option maxRecDepth 100000 in
set_option maxHeartbeats 1000000 in
theorem sclone_any (t : ByteArray) (w : World) (ht : t.size ≤ 281474976710656) :
    Calls Tryz.prog 101 #[.string t] w fun e w' => e = .returned (.string t) ∧ Below w.heap.size w w' := by
  go_enter Tryz.func101, Tryz.ntmps101
  go_wp2_with fail
  refine (Tryz.stringslite_Clone t w ht).mono ?_
  rintro ev x1 ⟨rfl, hb⟩
  have HB := hide hb
  clear hb
  go_wp2
  go_ret
  exact ⟨rfl, unhide HB⟩
set_option maxRecDepth 100000 in
set_option maxHeartbeats 1000000 in
theorem own_any (t : ByteArray) (w : World) (ht : t.size ≤ 281474976710656) :
    Calls Tryz.prog 66 #[.string t] w fun e w' => e = .returned (.string t) ∧ Below w.heap.size w w' := by
  go_enter Tryz.func66, Tryz.ntmps66
  go_wp2_with fail
  refine (sclone_any t w ht).mono ?_
  rintro ev x1 ⟨rfl, hb⟩
  have HB := hide hb
  clear hb
  go_wp2
  go_ret
  exact ⟨rfl, unhide HB⟩
def isOk (s : DSt) (i : Int) : Prop := 0 ≤ i ∧ i < (s.last.length : Int)
instance (s : DSt) (i : Int) : Decidable (isOk s i) := by unfold isOk; infer_instance
def readE (s : DSt) (i : Int) : Int := if isOk s i then (if s.dead then 2 else 0) else 41
def readT (s : DSt) (i : Int) : ByteArray := if isOk s i then (if s.dead then ⟨#[]⟩ else s.now.getD i.toNat ByteArray.empty) else ⟨#[]⟩
set_option maxRecDepth 100000 in
set_option maxHeartbeats 1000000 in
theorem read_any (w : World) (base b : Nat) (v : DV) (s : DSt) (h : Dk w base b v s) (hln : s.now.length = s.last.length) (i : Int) :
    Calls Tryz.prog 14 #[.pointer (some ⟨b, 0, none⟩), .int .i64 i] w fun e w' => e = .returned (.tuple #[.string (readT s i), .int .i64 (readE s i)]) ∧ w' = w := by
  have c5 : w.cell? ⟨b, 5, none⟩ = some (.bool s.dead) := by rw [h.blk.cell 5]; rfl
  have H := hide h
  by_cases hi : isOk s i
  · rw [readT, readE, if_pos hi, if_pos hi]
    by_cases hd : s.dead = true
    · rw [if_pos hd, if_pos hd]
      rw [hd] at c5
      have e : decide (0 ≤ i ∧ i < (s.last.length : Int)) = true := by simpa [isOk] using hi
      clear h hd hi
      go_enter Tryz.func14, Tryz.ntmps14
      go_wp2_with fail
      refine (has_any w base b v s (unhide H) i).mono ?_
      rintro ev x1 ⟨rfl, rfl⟩
      rw [e]
      clear e
      go_wp2
      go_ret2
      exact ⟨rfl, rfl⟩
    · rw [if_neg hd, if_neg hd]
      rw [Bool.not_eq_true] at hd
      rw [hd] at c5
      have e : decide (0 ≤ i ∧ i < (s.last.length : Int)) = true := by simpa [isOk] using hi
      obtain ⟨j, rfl⟩ := Int.eq_ofNat_of_zero_le hi.1
      have hj : j < s.now.length := by have := hi.2; omega
      obtain ⟨gn, capn, evn, _⟩ := h.rn.form (by omega)
      have hgn : v.n.ownBlock = some gn := by rw [evn]; rfl
      have c1 : w.cell? ⟨b, 1, none⟩ = some (.slice (some ⟨gn, 0, none⟩) s.now.length capn) := by rw [h.blk.cell 1, ← evn]; rfl
      have cj : w.cell? ⟨gn, j, none⟩ = some (.string (s.now.getD j ByteArray.empty)) := by rw [(own_at h.rn hgn j hj).1]; exact strs_at _ _ hj
      rw [Int.toNat_natCast]
      generalize s.now.getD j ByteArray.empty = T at *
      generalize s.now.length = n at *
      clear h hd hi hln hgn evn
      go_enter Tryz.func14, Tryz.ntmps14
      go_wp2_with fail
      refine (has_any w base b v s (unhide H) (j : Int)).mono ?_
      rintro ev x1 ⟨rfl, rfl⟩
      rw [e]
      clear e
      go_wp2
      go_ret2
      exact ⟨rfl, rfl⟩
  · rw [readT, readE, if_neg hi, if_neg hi]
    have e : decide (0 ≤ i ∧ i < (s.last.length : Int)) = false := by simpa [isOk] using hi
    clear h hi
    go_enter Tryz.func14, Tryz.ntmps14
    go_wp2_with fail
    refine (has_any w base b v s (unhide H) i).mono ?_
    rintro ev x1 ⟨rfl, rfl⟩
    rw [e]
    clear e
    go_wp2
    go_ret2
    exact ⟨rfl, rfl⟩
/-- What holds of every disk. -/
structure Sane (s : DSt) : Prop where
  pos : 0 < s.last.length
  cap : s.last.length ≤ 1024
  same : s.now.length = s.last.length
  pend : pendOk s
  fuse : 0 ≤ s.fuse ∧ s.fuse ≤ 9223372036854775807
  acts : ∀ p ∈ s.acts, p.2 < 1024
def writeE (s : DSt) (i : Int) (t : ByteArray) : Int := if isOk s i then (if t.size = 256 then (if (diesS s).dead then 2 else 0) else 42) else 41
def writeS (s : DSt) (i : Int) (t : ByteArray) : DSt := if isOk s i then (if t.size = 256 then (if (diesS s).dead then diesS s else { diesS s with now := s.now.set i.toNat t, pend := s.pend ++ [(i.toNat, t)], acts := s.acts ++ [(0, i.toNat)] }) else s) else s
theorem diesS_last (s : DSt) : (diesS s).last = s.last := by unfold diesS; split <;> rfl
theorem diesS_now (s : DSt) : (diesS s).now = s.now := by unfold diesS; split <;> rfl
theorem diesS_pend (s : DSt) : (diesS s).pend = s.pend := by unfold diesS; split <;> rfl
theorem diesS_acts (s : DSt) : (diesS s).acts = s.acts := by unfold diesS; split <;> rfl
theorem diesS_fuse (s : DSt) (h : 0 ≤ s.fuse ∧ s.fuse ≤ 9223372036854775807) : 0 ≤ (diesS s).fuse ∧ (diesS s).fuse ≤ 9223372036854775807 := by
  unfold diesS
  split
  · show 0 ≤ s.fuse - 1 ∧ s.fuse - 1 ≤ _
    omega
  · exact h
theorem Sane.dies {s : DSt} (h : Sane s) : Sane (diesS s) :=
  ⟨by rw [diesS_last]; exact h.pos, by rw [diesS_last]; exact h.cap, by rw [diesS_last, diesS_now]; exact h.same, by intro p hp; rw [diesS_pend] at hp; rw [diesS_last]; exact h.pend p hp, diesS_fuse s h.fuse, by rw [diesS_acts]; exact h.acts⟩
set_option maxRecDepth 100000 in
set_option maxHeartbeats 2000000 in
theorem write_any (w : World) (base b : Nat) (v : DV) (s : DSt) (h : Dk w base b v s) (hb : base ≤ w.heap.size) (hS : Sane s) (hp : s.pend.length ≤ 1000000000) (ha : s.acts.length ≤ 1000000000) (i : Int) (t : ByteArray) :
    Calls Tryz.prog 20 #[.pointer (some ⟨b, 0, none⟩), .int .i64 i, .string t] w fun e w' => e = .returned (.int .i64 (writeE s i t)) ∧ DPost base b v (writeS s i t) w w' := by
  have H := hide h
  have HS := hide hS
  clear h hS
  by_cases hi : isOk s i
  · have e : decide (0 ≤ i ∧ i < (s.last.length : Int)) = true := by simpa [isOk] using hi
    rw [writeE, writeS, if_pos hi, if_pos hi]
    by_cases ht : t.size = 256
    · rw [if_pos ht, if_pos ht]
      have e2 : decide (t.size = 256) = true := by simpa using ht
      by_cases hd : (diesS s).dead = true
      · rw [if_pos hd, if_pos hd]
        have HI := hide hi
        have HD := hide hd
        clear hi ht hd
        go_enter Tryz.func20, Tryz.ntmps20
        go_wp2_with fail
        refine (has_any w base b v s (unhide H) i).mono ?_
        rintro ev x1 ⟨rfl, rfl⟩
        rw [e]
        clear e
        go_wp2_with fail
        refine (isSector_any t _).mono ?_
        rintro ev x2 ⟨rfl, rfl⟩
        rw [e2]
        clear e2
        go_wp2_with fail
        refine (dies_any _ base b v s (unhide H) ⟨by have := (unhide HS).fuse.1; omega, (unhide HS).fuse.2⟩).mono ?_
        rintro ev x3 ⟨rfl, hD3, hO3⟩
        rw [unhide HD]
        have XD := hide hD3
        have XO := hide hO3
        clear hD3 hO3
        go_wp2
        go_ret
        exact ⟨rfl, v, unhide XD, unhide XO, fun _ q => .inl q⟩
      · rw [if_neg hd, if_neg hd]
        rw [Bool.not_eq_true] at hd
        obtain ⟨j, rfl⟩ := Int.eq_ofNat_of_zero_le hi.1
        have hj : j < s.last.length := by have := hi.2; omega
        rw [Int.toNat_natCast]
        have HI := hide hi
        have HD := hide hd
        have HT := hide ht
        have hj2 : j < 1024 := by have := (unhide HS).cap; omega
        clear hi hd ht
        go_enter Tryz.func20, Tryz.ntmps20
        go_wp2_with fail
        refine (has_any w base b v s (unhide H) (j : Int)).mono ?_
        rintro ev x1 ⟨rfl, rfl⟩
        rw [e]
        clear e
        go_wp2_with fail
        refine (isSector_any t _).mono ?_
        rintro ev x2 ⟨rfl, rfl⟩
        rw [e2]
        clear e2
        go_wp2_with fail
        refine (dies_any _ base b v s (unhide H) ⟨by have := (unhide HS).fuse.1; omega, (unhide HS).fuse.2⟩).mono ?_
        rintro ev x3 ⟨rfl, hD3, hO3⟩
        rw [unhide HD]
        have hs3 := hO3.size
        have XD := hide hD3
        have XO := hide hO3
        clear hD3 hO3
        go_wp2_with fail
        refine wp_region_held_drew (S := fun _ => True) (by kernel_rfl) trivial ?_
        intro hS
        refine wpAnyH_takeD 0 (some 18) (.pointer (some ⟨b, 0, none⟩)) rfl rfl (by kernel_rfl) (by kernel_rfl) (by kernel_rfl) (fun _ _ _ h => h) (Or.inl ⟨by rfl, fun w hSw => by go_simp⟩) hS ?_
        simp only [Act.put, List.setIfInBounds_toArray, List.set_cons_zero, List.set_cons_succ]
        refine wpAnyH_takeD 1 (some 19) (.pointer (some ⟨b, 0, none⟩)) rfl rfl (by kernel_rfl) (by kernel_rfl) (by kernel_rfl) (fun _ _ _ h => h) (Or.inl ⟨by rfl, fun w hSw => by go_simp⟩) hS ?_
        simp only [Act.put, List.setIfInBounds_toArray, List.set_cons_zero, List.set_cons_succ]
        refine wpAnyH_takeD 2 (some 20) (.pointer (some ⟨b, 0, none⟩)) rfl rfl (by kernel_rfl) (by kernel_rfl) (by kernel_rfl) (fun _ _ _ h => h) (Or.inl ⟨by rfl, fun w hSw => by go_simp⟩) hS ?_
        simp only [Act.put, List.setIfInBounds_toArray, List.set_cons_zero, List.set_cons_succ]
        refine wpAnyH_takeD 3 (some 21) (.int .i64 (j : Int)) rfl rfl (by kernel_rfl) (by kernel_rfl) (by kernel_rfl) (fun _ _ _ h => h) (Or.inl ⟨by rfl, fun w hSw => by go_simp⟩) hS ?_
        simp only [Act.put, List.setIfInBounds_toArray, List.set_cons_zero, List.set_cons_succ]
        refine wpAnyH_takeD 4 (some 22) (.string t) rfl rfl (by kernel_rfl) (by kernel_rfl) (by kernel_rfl) (fun _ _ _ h => h) (Or.inl ⟨by rfl, fun w hSw => by go_simp⟩) hS ?_
        simp only [Act.put, List.setIfInBounds_toArray, List.set_cons_zero, List.set_cons_succ]
        refine wpAnyH_ready (rs := [5]) (by kernel_rfl) (by simp) ?_
        refine AllReadyH.cons rfl (fun K hK => ?_) AllReadyH.nil
        simp only [List.getElem_toArray, List.getElem_cons_succ, List.getElem_cons_zero]
        go_simp
        refine (own_any t _ (by rw [unhide HT]; decide)).mono ?_
        rintro ev x4 ⟨rfl, hB4⟩
        have XD4 := hide ((unhide XD).drew.below hB4)
        have XO4 := hide (show Only (Fd b v) _ x4 from (unhide XO).drew.trans (Q := fun _ => False) (Only.of_below hB4) (fun _ _ q => q.elim))
        have hs4 : x3.heap.size ≤ x4.heap.size := hB4.size
        clear hB4 XD XO
        refine hK.out _ _ trivial (fun hS => ?_)
        clear hK K
        refine wpAnyH_ready (rs := [6]) (by kernel_rfl) (by simp) ?_
        refine AllReadyH.cons rfl (fun K hK => ?_) AllReadyH.nil
        simp only [List.getElem_toArray, List.getElem_cons_succ, List.getElem_cons_zero]
        go_simp
        refine (put_any _ base b v (diesS s) (unhide XD4) (by omega) t j (by rw [diesS_now, (unhide HS).same]; exact hj) (by rw [diesS_pend]; exact hp)).mono ?_
        rintro ev x5 ⟨rfl, v5, hD5, hO5, hF5⟩
        have hs5 := hO5.size
        have XD5 := hide hD5
        have XO5 := hide hO5
        have XF5 := hide hF5
        clear hD5 hO5 hF5
        refine hK.out _ _ trivial (fun hS => ?_)
        clear hK K
        refine wpAnyH_done (by kernel_rfl) ?_ _
        clear hS
        go_wp2_with fail
        refine (note_any _ base b v5 _ (unhide XD5) (by omega) 0 j (by omega) (by show (diesS s).acts.length ≤ _; rw [diesS_acts]; exact ha)).mono ?_
        rintro ev x6 ⟨rfl, hP6⟩
        have XP6 := hide hP6
        clear hP6
        go_wp2
        go_ret
        refine ⟨rfl, DPost.trans (unhide XO4) (fun _ q => .inl q) (DPost.trans (unhide XO5) (unhide XF5) ?_)⟩
        have := unhide XP6
        simpa [diesS_now, diesS_pend, diesS_acts] using this
    · rw [if_neg ht, if_neg ht]
      have e2 : decide (t.size = 256) = false := by simpa using ht
      clear hi ht
      go_enter Tryz.func20, Tryz.ntmps20
      go_wp2_with fail
      refine (has_any w base b v s (unhide H) i).mono ?_
      rintro ev x1 ⟨rfl, rfl⟩
      rw [e]
      clear e
      go_wp2_with fail
      refine (isSector_any t _).mono ?_
      rintro ev x2 ⟨rfl, rfl⟩
      rw [e2]
      clear e2
      go_wp2
      go_ret
      exact ⟨rfl, DPost.refl (unhide H)⟩
  · have e : decide (0 ≤ i ∧ i < (s.last.length : Int)) = false := by simpa [isOk] using hi
    rw [writeE, writeS, if_neg hi, if_neg hi]
    clear hi
    go_enter Tryz.func20, Tryz.ntmps20
    go_wp2_with fail
    refine (has_any w base b v s (unhide H) i).mono ?_
    rintro ev x1 ⟨rfl, rfl⟩
    rw [e]
    clear e
    go_wp2
    go_ret
    exact ⟨rfl, DPost.refl (unhide H)⟩
end Go.Proofs.YtffiaogbphgmgaaGreatDoor

namespace Go.Proofs.YtffiaogbphgmgaaGreatDoor
open Go.RowKit
def flushE (s : DSt) : Int := if (diesS s).dead then 2 else 0
def flushS (s : DSt) : DSt := if (diesS s).dead then diesS s else { diesS s with last := layP s.last s.pend, pend := [], acts := s.acts ++ [(1, 0)] }
set_option maxRecDepth 100000 in
set_option maxHeartbeats 2000000 in
theorem flush_any (w : World) (base b : Nat) (v : DV) (s : DSt) (h : Dk w base b v s) (hb : base ≤ w.heap.size) (hS : Sane s) (hp : s.pend.length ≤ 1000000000) (ha : s.acts.length ≤ 1000000000) :
    Calls Tryz.prog 22 #[.pointer (some ⟨b, 0, none⟩)] w fun e w' => e = .returned (.int .i64 (flushE s)) ∧ DPost base b v (flushS s) w w' := by
  have H := hide h
  have HS := hide hS
  clear h hS
  by_cases hd : (diesS s).dead = true
  · rw [flushE, flushS, if_pos hd, if_pos hd]
    have HD := hide hd
    clear hd
    go_enter Tryz.func22, Tryz.ntmps22
    go_wp2_with fail
    refine (dies_any _ base b v s (unhide H) ⟨by have := (unhide HS).fuse.1; omega, (unhide HS).fuse.2⟩).mono ?_
    rintro ev x3 ⟨rfl, hD3, hO3⟩
    rw [unhide HD]
    have XD := hide hD3
    have XO := hide hO3
    clear hD3 hO3
    go_wp2
    go_ret
    exact ⟨rfl, v, unhide XD, unhide XO, fun _ q => .inl q⟩
  · rw [flushE, flushS, if_neg hd, if_neg hd]
    rw [Bool.not_eq_true] at hd
    have HD := hide hd
    clear hd
    go_enter Tryz.func22, Tryz.ntmps22
    go_wp2_with fail
    refine (dies_any _ base b v s (unhide H) ⟨by have := (unhide HS).fuse.1; omega, (unhide HS).fuse.2⟩).mono ?_
    rintro ev x3 ⟨rfl, hD3, hO3⟩
    rw [unhide HD]
    have hs3 := hO3.size
    have XD := hide hD3
    have XO := hide hO3
    clear hD3 hO3
    go_wp2_with fail
    refine (settle_any _ base b v _ (unhide XD) (unhide HS).dies.pend (by rw [diesS_pend]; exact hp) (unhide HS).dies.pos).mono ?_
    rintro ev x4 ⟨rfl, v4, hD4, hO4, hF4⟩
    have hs4 := hO4.size
    have XD4 := hide hD4
    have XO4 := hide hO4
    have XF4 := hide hF4
    clear hD4 hO4 hF4
    go_wp2_with fail
    refine (note_any _ base b v4 _ (unhide XD4) (by omega) 1 0 (by omega) (by show (diesS s).acts.length ≤ _; rw [diesS_acts]; exact ha)).mono ?_
    rintro ev x6 ⟨rfl, hP6⟩
    have XP6 := hide hP6
    clear hP6
    go_wp2
    go_ret
    refine ⟨rfl, DPost.trans (unhide XO) (fun _ q => .inl q) (DPost.trans (unhide XO4) (unhide XF4) ?_)⟩
    have := unhide XP6
    simpa [diesS_last, diesS_now, diesS_pend, diesS_acts] using this
/-- Which of m writes are named by the numbers l. -/
def keptL (m : Nat) (l : List Int) : List Bool := (List.range m).map (fun i : Nat => decide ((i : Int) ∈ l))
def pickOk (m : Nat) (z : Int) : Prop := 0 ≤ z ∧ z < (m : Int)
instance (m : Nat) (z : Int) : Decidable (pickOk m z) := by unfold pickOk; infer_instance
def crashE (s : DSt) (l : List Int) : Int := if ∀ z ∈ l, pickOk s.pend.length z then 0 else 43
def crashS (s : DSt) (l : List Int) : DSt := if ∀ z ∈ l, pickOk s.pend.length z then { s with last := layP s.last (keepP s.pend (keptL s.pend.length l)), now := layP s.last (keepP s.pend (keptL s.pend.length l)), pend := [], fuse := 0, dead := false } else s
/-- A slice of ints that was handed in. -/
def Ints (w : World) (p : Option Addr) (l : List Int) : Prop := ∀ j, j < l.length → ∃ g o, p = some ⟨g, o, none⟩ ∧ g < w.heap.size ∧ w.cell? ⟨g, o + j, none⟩ = some (.int .i64 (l.getD j 0))
theorem infoB : (Tryz.prog.info? 4).map (fun i => (i.zero, i.size, i.bytes)) = some (some (.bool false), 1, 1) := by kernel_rfl
theorem keptL_len (m : Nat) (l : List Int) : (keptL m l).length = m := by simp [keptL]
theorem keptL_nil (m : Nat) : keptL m [] = List.replicate m false := by
  apply List.ext_getElem
  · simp [keptL]
  · intro j h1 h2
    simp [keptL]
theorem keptL_snoc (m : Nat) (l : List Int) (z : Nat) : keptL m (l ++ [(z : Int)]) = (keptL m l).set z true := by
  apply List.ext_getElem
  · simp [keptL]
  · intro j h1 h2
    simp only [keptL, List.getElem_map, List.getElem_range, List.getElem_set]
    by_cases hj : z = j
    · subst hj; simp
    · have : ¬ (j : Int) = (z : Int) := by omega
      simp [hj, this]
def bools (l : List Bool) : Array Value := (l.map Value.bool).toArray
set_option maxRecDepth 100000 in
theorem run_make_b (l : Nat) (hc : l ≤ 281474976710656) (w : World) : (Instr.makeSlice 101 (.int .i64 (l : Int)) (.int .i64 (l : Int))).run Tryz.prog w = .ok (.slice (some ⟨w.heap.size, 0, none⟩) l l) (w.alloc (.cells (bools (List.replicate l false)) 4)) := by
  obtain ⟨i0, hi, hz0, hz1, hz2⟩ := info_parts infoB
  have := run_make (P := Tryz.prog) w 101 4 i0 (.bool false) Tryz.underlying101 hi hz0 .i64 .i64 (l : Int) (l : Int) (by omega) (by omega) (by rw [hz2]; omega) (by omega)
  rw [this, hz1]
  simp only [Int.toNat_natCast, Nat.mul_one]
  congr 3
  apply Array.ext
  · simp [size_madeCells, bools]
  · intro j h1 h2
    simp [madeCells, Value.cells, Nat.mod_one, bools]
theorem bools_set (l : List Bool) (j : Nat) (x : Bool) : (bools l).setIfInBounds j (.bool x) = bools (l.set j x) := by
  simp [bools, List.map_set]
theorem bools_at (l : List Bool) (j : Nat) (hj : j < l.length) : (bools l)[j]? = some (.bool (l.getD j false)) := by
  simp [bools, hj]
def KInv (w : World) (m : Nat) (l : List Int) (wr : World) : Prop := Blk wr w.heap.size (bools (keptL m l)) 4 ∧ Below w.heap.size w wr ∧ ∀ z ∈ l, pickOk m z
theorem KInv.step {w wr : World} {m : Nat} {l : List Int} (h : KInv w m l wr) (z : Nat) (hz : z < m) : KInv w m (l ++ [(z : Int)]) (wr.setCell ⟨w.heap.size, z, none⟩ (.bool true)) := by
  refine ⟨?_, h.2.1.setCell (Nat.le_refl _) _, fun y hy => ?_⟩
  · rw [keptL_snoc, ← bools_set]; exact h.1.set z _
  · rcases List.mem_append.1 hy with hy | hy
    · exact h.2.2 y hy
    · simp at hy; subst hy; exact ⟨by omega, by omega⟩
set_option maxRecDepth 100000 in
set_option maxHeartbeats 2000000 in
theorem crash_any (w : World) (base b : Nat) (v : DV) (s : DSt) (h : Dk w base b v s) (hb : base ≤ w.heap.size) (hS : Sane s) (hp : s.pend.length ≤ 1000000000) (p : Option Addr) (l : List Int) (c : Nat) (hl : Ints w p l) (hll : l.length ≤ 9223372036854775807) :
    Calls Tryz.prog 13 #[.pointer (some ⟨b, 0, none⟩), .slice p l.length c] w fun e w' => e = .returned (.int .i64 (crashE s l)) ∧ DPost base b v (crashS s l) w w' := by
  have H := hide h
  have HS := hide hS
  have HL := hide hl
  clear h hS hl
  go_enter Tryz.func13, Tryz.ntmps13
  go_wp2_with fail
  refine (pending_any _ base b v s (unhide H)).mono ?_
  rintro ev x1 ⟨rfl, rfl⟩
  have hmk := run_make_b s.pend.length (by omega) x1
  have X0 := hide (show KInv x1 s.pend.length [] (x1.alloc (.cells (bools (List.replicate s.pend.length false)) 4)) from ⟨by rw [keptL_nil]; exact Blk.new _ _ _, (Below.refl _ _).alloc (Nat.le_refl _) _, fun z hz => by simp at hz⟩)
  generalize hx2 : x1.alloc (.cells (bools (List.replicate s.pend.length false)) 4) = x2 at *
  clear hx2
  go_wp2
  clear hmk
  go_loopw [15] (fun i wr => ∃ k : Nat, k ≤ l.length ∧ i = .int .i64 (k : Int) ∧ KInv x1 s.pend.length (l.take k) wr) (fun i _ => l.length - (intOf i).toNat)
  case atStart => exact ⟨0, by omega, rfl, unhide X0⟩
  case round =>
    obtain ⟨k, hk, rfl, hI⟩ := hrel
    obtain ⟨wo, rfl⟩ : ∃ wo, wo = wr := ⟨_, rfl⟩
    have XI := hide hI
    clear hI X0
    by_cases hkl : k < l.length
    · obtain ⟨g, o, rfl, hg, hc⟩ := unhide HL k hkl
      have ck : wo.cell? ⟨g, o + k, none⟩ = some (.int .i64 (l.getD k 0)) := by rw [(unhide XI).2.1.cell (p := ⟨g, o + k, none⟩) hg]; exact hc
      have HT := hide (show l.take (k + 1) = l.take k ++ [l.getD k 0] by
        rw [List.take_succ_eq_append_getElem hkl]
        simp [List.getD_eq_getElem?_getD, hkl])
      have HM := hide (show l.getD k 0 ∈ l by
        simp [List.getD_eq_getElem?_getD, hkl])
      generalize l.getD k 0 = z at *
      clear hc
      by_cases hz : pickOk s.pend.length z
      · obtain ⟨y, rfl⟩ := Int.eq_ofNat_of_zero_le hz.1
        have hy : y < s.pend.length := by have := hz.2; omega
        have cy : wo.cell? ⟨x1.heap.size, y, none⟩ = some (.bool ((keptL s.pend.length (l.take k)).getD y false)) := by rw [(unhide XI).1.cell y]; exact bools_at _ _ (by rw [keptL_len]; exact hy)
        have fy := (unhide XI).1.frozen y
        generalize (keptL s.pend.length (l.take k)).getD y false = ob at *
        clear hz
        go_wp2
        go_roundw
        case rel =>
          refine ⟨k + 1, by omega, by go_num, ?_⟩
          rw [unhide HT]
          exact (unhide XI).step y hy
        case measure => simp [intOf]; omega
      · have hE : ¬ ∀ z ∈ l, pickOk s.pend.length z := fun h => hz (h z (unhide HM))
        have HBE := hide (unhide XI).2.1
        have HEE := hide hE
        clear hE HS HL
        by_cases hz0 : z < 0
        · clear hz
          go_wp2
          go_ret
          exact ⟨by rw [crashE, if_neg (unhide HEE)]; rfl, by rw [crashS, if_neg (unhide HEE)]; exact ⟨v, (unhide H).below (unhide HBE), Only.of_below (unhide HBE), fun _ q => .inl q⟩⟩
        · have hz1 : (s.pend.length : Int) ≤ z := by
            have : ¬ (0 ≤ z ∧ z < (s.pend.length : Int)) := hz
            omega
          clear hz
          go_wp2
          go_ret
          exact ⟨by rw [crashE, if_neg (unhide HEE)]; rfl, by rw [crashS, if_neg (unhide HEE)]; exact ⟨v, (unhide H).below (unhide HBE), Only.of_below (unhide HBE), fun _ q => .inl q⟩⟩
    · have hk' : k = l.length := by omega
      subst hk'
      rw [List.take_length] at XI
      have hE : ∀ z ∈ l, pickOk s.pend.length z := (unhide XI).2.2
      have XD := hide ((unhide H).below (unhide XI).2.1)
      have hsz := (unhide XI).2.1.size
      have hgk : x1.heap.size < wo.heap.size := (unhide XI).1.lt
      have HBo := hide (show Bools wo x1.heap.size (keptL s.pend.length l) from fun j hj => by rw [(unhide XI).1.cell j]; exact bools_at _ _ hj)
      have XO := hide (show Only (Fd b v) x1 wo from Only.of_below (unhide XI).2.1)
      have HE := hide hE
      clear hE XI HL hkl hk
      go_wp2_with fail
      refine (lose_any _ base b v s (unhide XD) (by omega) (unhide HS).pend hp (unhide HS).pos (unhide HS).same x1.heap.size hgk (keptL s.pend.length l) (keptL_len _ _) (unhide HBo) s.pend.length).mono ?_
      rintro ev x3 ⟨rfl, v3, hD3, hO3, hF3⟩
      have f4 := hD3.blk.frozen 4
      have f5 := hD3.blk.frozen 5
      have c4 : x3.cell? ⟨b, 4, none⟩ = some (.int .i64 s.fuse) := by rw [hD3.blk.cell 4]; rfl
      have c5 : x3.cell? ⟨b, 5, none⟩ = some (.bool s.dead) := by rw [hD3.blk.cell 5]; rfl
      have XD3 := hide hD3
      have XO3 := hide hO3
      have XF3 := hide hF3
      clear hD3 hO3 hF3 HBo
      go_wp2
      go_ret
      refine ⟨by rw [crashE, if_pos (unhide HE)]; rfl, DPost.trans (unhide XO) (fun _ q => .inl q) ?_⟩
      rw [crashS, if_pos (unhide HE)]
      refine DPost.trans (unhide XO3) (unhide XF3) ⟨v3, ((unhide XD3).setFuse 0).setDead false, only_b (only_b (Only.refl _ _) _ _) _ _, fun _ q => .inl q⟩
end Go.Proofs.YtffiaogbphgmgaaGreatDoor
