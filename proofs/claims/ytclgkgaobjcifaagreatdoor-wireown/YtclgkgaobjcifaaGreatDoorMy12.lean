import Derived.Test.YtclgkgaobjcifaaGreatDoorMy08
import Derived.Test.YtclgkgaobjcifaaGreatDoorMy11
import Derived.Test.YtclgkgaobjcifaaGreatDoorMy01
import Derived.Test.YtclgkgaobjcifaaGreatDoorMy06
import Derived.Shelf.Bits.Mul64
import Derived.Shelf.Strings.Repeat
import Derived.Test.YtclgkgaobjcifaaGreatDoorProg
namespace Go.Proofs.YtclgkgaobjcifaaGreatDoor
open Go.RowKit
set_option maxRecDepth 100000
end Go.Proofs.YtclgkgaobjcifaaGreatDoor

namespace Go.Proofs.YtclgkgaobjcifaaGreatDoor
open Go.RowKit
end Go.Proofs.YtclgkgaobjcifaaGreatDoor

/-
  DERIVED: THE SHELF's CONTRACTS AT THIS DUMP, IN PLAIN WORDS (tools/lay-plain.mjs out of 'TryzShelf.lean', which tools/lay-shelf.mjs wrote): THE SAME DECLARATIONS UNDER THE SAME NAMES: 'import', 'namespace', 'open', 'def', 'theorem' AND NOTHING ELSE: no command of the shelf's: FOR A HAND-IN. Each laying: the table of numbers ('.._ren') and one theorem, a field a fact of the dump's own or the kernel's comparison; each contract: ONE APPLICATION.
-/
namespace Go.Proofs.YtclgkgaobjcifaaGreatDoor
open Go.Shelf
def Tryz.lays264_ren : Go.Shelf.Ren := ⟨fun | 264 => 102 | n => n, fun | 53 => 155 | 46 => 107 | n => n, fun | n => n⟩
theorem Tryz.lays264 : Go.Proofs.Lays.n264 Tryz.prog Tryz.lays264_ren := {
  mixed := by kernel_rfl
  f264 := Tryz.func102.trans (congrArg some (by kernel_rfl))
  t46 := Tryz.underlying107
  a46 := Tryz.isAgg107
  z46 := Tryz.sizeOf107
  v46 := Tryz.zeroValue107
  t53 := Tryz.underlying155
  a53 := Tryz.isAgg155
  z53 := Tryz.sizeOf155
  v53 := Tryz.zeroValue155 }
open Go.RowKit Go.Lib in
theorem Tryz.bits_Mul64 (x y : Nat) (hx : x < 18446744073709551616) (hy : y < 18446744073709551616) (w : World) :
    Calls Tryz.prog 102 #[.int .u64 x, .int .u64 y] w fun e w' => e = .returned (.tuple #[.int .u64 ((x * y / 18446744073709551616 : Nat) : Int), .int .u64 ((x * y % 18446744073709551616 : Nat) : Int)]) ∧ w' = w := Any.bits_Mul64 Tryz.lays264 x y hx hy w
def Tryz.lays212_ren : Go.Shelf.Ren := ⟨fun | 212 => 91 | 263 => 101 | 264 => 102 | n => n, fun | 46 => 107 | 51 => 148 | 146 => 178 | 53 => 155 | 148 => 180 | n => n, fun | n => n⟩
theorem Tryz.lays212 : Go.Proofs.Lays.n212 Tryz.prog Tryz.lays212_ren := {
  mixed := by kernel_rfl
  f212 := Tryz.func91.trans (congrArg some (by kernel_rfl))
  f263 := Tryz.func101.trans (congrArg some (by kernel_rfl))
  f264 := Tryz.func102.trans (congrArg some (by kernel_rfl))
  t46 := Tryz.underlying107
  a46 := Tryz.isAgg107
  z46 := Tryz.sizeOf107
  v46 := Tryz.zeroValue107
  t51 := Tryz.underlying148
  a51 := Tryz.isAgg148
  z51 := Tryz.sizeOf148
  v51 := Tryz.zeroValue148
  t53 := Tryz.underlying155
  a53 := Tryz.isAgg155
  z53 := Tryz.sizeOf155
  v53 := Tryz.zeroValue155
  t146 := Tryz.underlying178
  a146 := Tryz.isAgg178
  z146 := Tryz.sizeOf178
  v146 := Tryz.zeroValue178
  t148 := Tryz.underlying180
  a148 := Tryz.isAgg180
  z148 := Tryz.sizeOf180
  v148 := Tryz.zeroValue180 }
open Go.RowKit Go.Lib in
/-- math/bits.Mul: "Mul returns the full-width product of x and y": on a machine of 64 bits: Mul64's. (LAID: no walk: one application.) -/
theorem Tryz.bits_Mul (x y : Nat) (hx : x < 18446744073709551616) (hy : y < 18446744073709551616) (w : World) :
    Calls Tryz.prog 91 #[.int .u64 x, .int .u64 y] w fun e w' => e = .returned (.tuple #[.int .u64 ((x * y / 18446744073709551616 : Nat) : Int), .int .u64 ((x * y % 18446744073709551616 : Nat) : Int)]) ∧ w' = w := Any.bits_Mul Tryz.lays212 x y hx hy w
def Tryz.lays105_ren : Go.Shelf.Ren := ⟨fun | 105 => 87 | 212 => 91 | 99 => 92 | 165 => 93 | 166 => 94 | 170 => 95 | 169 => 96 | 263 => 101 | 264 => 102 | 206 => 103 | 240 => 104 | 241 => 105 | 276 => 109 | 277 => 110 | n => n, fun | 9 => 9 | 3 => 3 | 4 => 4 | 20 => 20 | 0 => 0 | 46 => 107 | 109 => 156 | 5 => 5 | 72 => 161 | 76 => 163 | 51 => 148 | 146 => 178 | 53 => 155 | 148 => 180 | 70 => 159 | 37 => 61 | 75 => 151 | 127 => 182 | 164 => 166 | 80 => 165 | n => n, fun | n => n⟩
theorem Tryz.lays105 : Go.Proofs.Lays.n105 Tryz.prog Tryz.lays105_ren := {
  mixed := by kernel_rfl
  f99 := Tryz.func92.trans (congrArg some (by kernel_rfl))
  f105 := Tryz.func87.trans (congrArg some (by kernel_rfl))
  f165 := Tryz.func93.trans (congrArg some (by kernel_rfl))
  f166 := Tryz.func94.trans (congrArg some (by kernel_rfl))
  f169 := Tryz.func96.trans (congrArg some (by kernel_rfl))
  f170 := Tryz.func95.trans (congrArg some (by kernel_rfl))
  f206 := Tryz.func103.trans (congrArg some (by kernel_rfl))
  f212 := Tryz.func91.trans (congrArg some (by kernel_rfl))
  f240 := Tryz.func104.trans (congrArg some (by kernel_rfl))
  f241 := Tryz.func105.trans (congrArg some (by kernel_rfl))
  f263 := Tryz.func101.trans (congrArg some (by kernel_rfl))
  f264 := Tryz.func102.trans (congrArg some (by kernel_rfl))
  f276 := Tryz.func109.trans (congrArg some (by kernel_rfl))
  f277 := Tryz.func110.trans (congrArg some (by kernel_rfl))
  t0 := Tryz.underlying0
  a0 := Tryz.isAgg0
  z0 := Tryz.sizeOf0
  v0 := Tryz.zeroValue0
  t3 := Tryz.underlying3
  a3 := Tryz.isAgg3
  z3 := Tryz.sizeOf3
  v3 := Tryz.zeroValue3
  t4 := Tryz.underlying4
  a4 := Tryz.isAgg4
  z4 := Tryz.sizeOf4
  v4 := Tryz.zeroValue4
  t5 := Tryz.underlying5
  a5 := Tryz.isAgg5
  z5 := Tryz.sizeOf5
  v5 := Tryz.zeroValue5
  t9 := Tryz.underlying9
  a9 := Tryz.isAgg9
  z9 := Tryz.sizeOf9
  v9 := Tryz.zeroValue9
  t20 := Tryz.underlying20
  a20 := Tryz.isAgg20
  z20 := Tryz.sizeOf20
  v20 := Tryz.zeroValue20
  t37 := Tryz.underlying61
  a37 := Tryz.isAgg61
  z37 := Tryz.sizeOf61
  v37 := Tryz.zeroValue61
  t46 := Tryz.underlying107
  a46 := Tryz.isAgg107
  z46 := Tryz.sizeOf107
  v46 := Tryz.zeroValue107
  t51 := Tryz.underlying148
  a51 := Tryz.isAgg148
  z51 := Tryz.sizeOf148
  v51 := Tryz.zeroValue148
  t53 := Tryz.underlying155
  a53 := Tryz.isAgg155
  z53 := Tryz.sizeOf155
  v53 := Tryz.zeroValue155
  t70 := Tryz.underlying159
  a70 := Tryz.isAgg159
  z70 := Tryz.sizeOf159
  v70 := Tryz.zeroValue159
  t72 := Tryz.underlying161
  a72 := Tryz.isAgg161
  z72 := Tryz.sizeOf161
  v72 := Tryz.zeroValue161
  t75 := Tryz.underlying151
  a75 := Tryz.isAgg151
  z75 := Tryz.sizeOf151
  v75 := Tryz.zeroValue151
  t76 := Tryz.underlying163
  a76 := Tryz.isAgg163
  z76 := Tryz.sizeOf163
  v76 := Tryz.zeroValue163
  t109 := Tryz.underlying156
  a109 := Tryz.isAgg156
  z109 := Tryz.sizeOf156
  v109 := Tryz.zeroValue156
  t127 := Tryz.underlying182
  a127 := Tryz.isAgg182
  z127 := Tryz.sizeOf182
  v127 := Tryz.zeroValue182
  t146 := Tryz.underlying178
  a146 := Tryz.isAgg178
  z146 := Tryz.sizeOf178
  v146 := Tryz.zeroValue178
  t148 := Tryz.underlying180
  a148 := Tryz.isAgg180
  z148 := Tryz.sizeOf180
  v148 := Tryz.zeroValue180
  t164 := Tryz.underlying166
  a164 := Tryz.isAgg166
  z164 := Tryz.sizeOf166
  v164 := Tryz.zeroValue166 }
theorem Tryz.Builder_Extra_105 : Builder.Extra Tryz.prog Tryz.lays105_ren := {
  sizeBuilder := by kernel_rfl
  liesBuilder := by kernel_rfl
  t5 := Tryz.underlying5
  a5 := Tryz.isAgg5
  z5 := Tryz.sizeOf5
  v5 := Tryz.zeroValue5
  infoByte := by kernel_rfl
  cellsByte := by kernel_rfl
  sizeByte := by kernel_rfl
  neB5 := by decide }
open Go.RowKit Go.Lib in
/-- THE MAIN CASE: at least two copies of a string that is not empty. (LAID: no walk: one application.) -/
theorem Tryz.strings_Repeat_main (s : ByteArray) (c : Nat) (w : World) (hc2 : 2 ≤ c) (hc : c ≤ 9223372036854775807) (hlen : s.size * c ≤ 140737488355328) (h0 : 0 < s.size) :
    Calls Tryz.prog 87 #[.string s, .int .i64 c] w fun e w' => e = .returned (.string ⟨(Lib.repeatL s.data.toList c).toArray⟩) ∧ Below w.heap.size w w' := Any.strings_Repeat_main Tryz.lays105 Tryz.Builder_Extra_105 s c w hc2 hc hlen h0
open Go.RowKit Go.Lib in
theorem Tryz.strings_Repeat_zero (s : ByteArray) (w : World) :
    Calls Tryz.prog 87 #[.string s, .int .i64 0] w fun e w' => e = .returned (.string ⟨#[]⟩) ∧ w' = w := Any.strings_Repeat_zero Tryz.lays105 s w
open Go.RowKit Go.Lib in
theorem Tryz.strings_Repeat_one (s : ByteArray) (w : World) :
    Calls Tryz.prog 87 #[.string s, .int .i64 1] w fun e w' => e = .returned (.string s) ∧ w' = w := Any.strings_Repeat_one Tryz.lays105 s w
open Go.RowKit Go.Lib in
/-- Copies of the empty string. (LAID: no walk: one application.) -/
theorem Tryz.strings_Repeat_empty (s : ByteArray) (c : Nat) (w : World) (hc2 : 2 ≤ c) (hc : c ≤ 9223372036854775807) (h0 : s.size = 0) :
    Calls Tryz.prog 87 #[.string s, .int .i64 c] w fun e w' => e = .returned (.string ⟨#[]⟩) ∧ w' = w := Any.strings_Repeat_empty Tryz.lays105 s c w hc2 hc h0
open Go.RowKit Go.Lib in
/-- count < 0: "It panics if count is negative". (LAID: no walk: one application.) -/
theorem Tryz.strings_Repeat_negative (s : ByteArray) (c : Int) (w : World) (hc : c < 0) :
    Calls Tryz.prog 87 #[.string s, .int .i64 c] w fun e w' => e = .panicked [{ v := repeatPanic Tryz.lays105_ren "strings: negative Repeat count", recovered := false }] ∧ w' = w := Any.strings_Repeat_negative Tryz.lays105 s c w hc
open Go.RowKit Go.Lib in
/-- len(s) * count is no int: ".. or if the result of (len(s) * count) overflows". (LAID: no walk: one application.) -/
theorem Tryz.strings_Repeat_overflow (s : ByteArray) (c : Nat) (w : World) (hc : c ≤ 9223372036854775807) (hs : s.size ≤ 9223372036854775807) (hbig : 9223372036854775807 < s.size * c) :
    Calls Tryz.prog 87 #[.string s, .int .i64 c] w fun e w' => e = .panicked [{ v := repeatPanic Tryz.lays105_ren "strings: Repeat output length overflow", recovered := false }] ∧ w' = w := Any.strings_Repeat_overflow Tryz.lays105 s c w hc hs hbig
open Go.RowKit Go.Lib in
/-- **strings.Repeat: count ≥ 0, the result within one allocation: count copies of s.** (LAID: no walk: one application.) -/
theorem Tryz.strings_Repeat (s : ByteArray) (c : Nat) (w : World) (hc : c ≤ 9223372036854775807) (hlen : s.size * c ≤ 140737488355328) :
    Calls Tryz.prog 87 #[.string s, .int .i64 c] w fun e w' => e = .returned (.string ⟨(Lib.repeatL s.data.toList c).toArray⟩) ∧ Below w.heap.size w w' := Any.strings_Repeat Tryz.lays105 Tryz.Builder_Extra_105 s c w hc hlen
end Go.Proofs.YtclgkgaobjcifaaGreatDoor

namespace Go.Proofs.YtclgkgaobjcifaaGreatDoor
open Go.RowKit
theorem rep_zero (c : Nat) : (⟨(Lib.repeatL (ByteArray.mk #[0]).data.toList c).toArray⟩ : ByteArray) = strOfNums (List.replicate c 0) := by
  have h : Lib.repeatL (ByteArray.mk #[0]).data.toList c = List.replicate c 0 := by
    have := Lib.repeatL_replicate 0 1 c
    rw [Nat.mul_one] at this
    exact this
  rw [h, strOfNums]
  simp
end Go.Proofs.YtclgkgaobjcifaaGreatDoor

namespace Go.Proofs.YtclgkgaobjcifaaGreatDoor
open Go.RowKit
set_option maxRecDepth 100000
/-- numbers at a place, in blocks below B -/
def Lst (w : World) (B : Nat) (p : Option Addr) (L : List Int) : Prop := ∀ j, j < L.length → ∃ g o, p = some ⟨g, o, none⟩ ∧ g < B ∧ w.cell? ⟨g, o + j, none⟩ = some (.int .i64 (L.getD j 0))
theorem Lst.below {w w' : World} {B : Nat} {p : Option Addr} {L : List Int} (h : Lst w B p L) (hb : Below B w w') : Lst w' B p L := fun j hj => by
  obtain ⟨g, o, e, hg, hc⟩ := h j hj
  exact ⟨g, o, e, hg, (hb.cell (p := ⟨g, o + j, none⟩) hg).trans hc⟩
theorem Lst.mono {w : World} {B B' : Nat} {p : Option Addr} {L : List Int} (h : Lst w B p L) (hB : B ≤ B') : Lst w B' p L := fun j hj => by
  obtain ⟨g, o, e, hg, hc⟩ := h j hj
  exact ⟨g, o, e, by omega, hc⟩
theorem Lst.nil (w : World) (B : Nat) (p : Option Addr) : Lst w B p [] := fun j hj => absurd hj (by simp)
theorem noughts_any (n : Nat) (hn : n ≤ 1000) (w : World) : Calls Tryz.prog 65 #[.int .i64 (n : Int)] w fun e w' => e = .returned (.string (strOfNums (List.replicate n 0))) ∧ Below w.heap.size w w' := by
  have h := Tryz.strings_Repeat ⟨#[0]⟩ n w (by omega) (by show 1 * n ≤ _; omega)
  rw [rep_zero] at h
  have HR := hide h
  clear h
  generalize strOfNums (List.replicate n 0) = S at *
  go_enter Tryz.func65, Tryz.ntmps65
  go_wp2_with fail
  refine (unhide HR).mono ?_
  rintro e z ⟨rfl, hz⟩
  have HZ := hide hz
  clear hz HR
  go_wp2
  go_ret
  exact ⟨rfl, unhide HZ⟩
/-- numbers of volumes that rise -/
def areV (L : List Int) : Bool := decide (∀ k, k < L.length → (1 ≤ L.getD k 0 ∧ L.getD k 0 ≤ 99) ∧ (0 < k → L.getD (k - 1) 0 < L.getD k 0))
def plB (L : List Int) : Bool := decide (L.length = 8 ∧ ∀ k, k < L.length → 0 ≤ L.getD k 0 ∧ L.getD k 0 ≤ 255)
def voB (L : List Int) : Bool := decide (L.length ≤ 8) && areV L
def voL (L : List Int) : List Int := numB (L.length : Int) 1 ++ outN 1 L ++ List.replicate (8 - L.length) 0
theorem fld_vol (W : World) : (Instr.field 138 (.agg tabC) 3).run Tryz.prog W = .ok (.agg #[.int .i64 1, .int .i64 1, .int .i64 99]) W := by kernel_rfl
set_option maxHeartbeats 2000000 in
theorem areVolumes_any (w : World) (B : Nat) (p : Option Addr) (cap n : Nat) (L : List Int) (hL : L.length = n) (h : Lst w B p L) (hB : B ≤ w.heap.size) (hn : n ≤ 8) : Calls Tryz.prog 144 #[.slice p n cap] w fun e w' => e = .returned (.bool (areV L)) ∧ Below w.heap.size w w' := by
  have HA := hide (allFields_any w)
  have HL := hide h
  have HN := hide hL
  have HF := hide fld_vol
  have HM := hide (fun (x : Int) (W : World) => mayBe_any 1 1 99 x W)
  have HV := hide (show areV L = decide (∀ k, k < L.length → (1 ≤ L.getD k 0 ∧ L.getD k 0 ≤ 99) ∧ (0 < k → L.getD (k - 1) 0 < L.getD k 0)) from rfl)
  obtain ⟨R, hR⟩ : ∃ R, areV L = R := ⟨_, rfl⟩
  rw [hR] at HV ⊢
  clear h hL hR
  go_enter Tryz.func144, Tryz.ntmps144
  go_wp2_with fail
  refine (unhide HA).mono ?_
  rintro e z ⟨rfl, hz⟩
  have hgv := unhide HF z
  have hb0 : Below w.heap.size w (z.alloc (.cells #[.int .i64 1, .int .i64 1, .int .i64 99] 124)) := hz.alloc (by exact hz.size) _
  have HB0 := hide (And.intro hb0 (show Blk (z.alloc (.cells #[.int .i64 1, .int .i64 1, .int .i64 99] 124)) z.heap.size #[.int .i64 1, .int .i64 1, .int .i64 99] 124 from Blk.new _ _ _))
  have hzs := hz.size
  clear hz HA hb0
  go_wp2
  obtain ⟨Y, hY⟩ : ∃ Y, z.alloc (.cells #[.int .i64 1, .int .i64 1, .int .i64 99] 124) = Y := ⟨_, rfl⟩
  obtain ⟨g, hg⟩ : ∃ g, z.heap.size = g := ⟨_, rfl⟩
  rw [hY, hg] at HB0
  rw [hY, hg]
  clear hY hg hgv hzs
  go_loopw [10] (fun i wr => ∃ k : Nat, k ≤ n ∧ i = .int .i64 (k : Int) ∧ (∀ j, j < k → (1 ≤ L.getD j 0 ∧ L.getD j 0 ≤ 99) ∧ (0 < j → L.getD (j - 1) 0 < L.getD j 0)) ∧ Below w.heap.size w wr ∧ Blk wr g #[.int .i64 1, .int .i64 1, .int .i64 99] 124) (fun i _ => n - (intOf i).toNat)
  case atStart => exact ⟨0, by omega, rfl, fun j hj => absurd hj (by omega), (unhide HB0).1, (unhide HB0).2⟩
  case round =>
    obtain ⟨k, hk, rfl, hall, hb, hG⟩ := hrel
    clear HB0
    by_cases hkn : k < n
    · have i1 : (k : Int) < (n : Int) := by omega
      have i2 : 0 ≤ (k : Int) := by omega
      obtain ⟨gl, o, rfl, hgl, hc⟩ := (unhide HL).below (hb.mono hB) k (by rw [unhide HN]; exact hkn)
      obtain ⟨x, hx⟩ : ∃ x, L.getD k 0 = x := ⟨_, rfl⟩
      rw [hx] at hc
      have d0 : wr.cell? ⟨g, 0, none⟩ = some (.int .i64 1) := hG.cell 0
      have d1 : wr.cell? ⟨g, 1, none⟩ = some (.int .i64 1) := hG.cell 1
      have d2 : wr.cell? ⟨g, 2, none⟩ = some (.int .i64 99) := hG.cell 2
      have HX := hide hx
      have HG := hide (And.intro hall (And.intro hb hG))
      clear hx hall hb hG
      by_cases q1 : 1 ≤ x ∧ x ≤ 99
      · have HMX := hide (fun W => unhide HM x W)
        rw [decide_eq_true q1] at HMX
        go_wp2_with fail
        refine (unhide HMX _).mono ?_
        rintro e y ⟨rfl, hy⟩
        have HGy := hide (show Below w.heap.size w y ∧ Blk y g #[.int .i64 1, .int .i64 1, .int .i64 99] 124 from ⟨(unhide HG).2.1.trans (hy.mono (unhide HG).2.1.size), (unhide HG).2.2.below hy (unhide HG).2.2.lt⟩)
        clear hy d0 d1 d2 hc HMX
        rcases Nat.eq_zero_or_pos k with h0 | h0
        · have i3 : ¬ ((k : Int) > 0) := by omega
          go_wp2
          go_roundw
          case rel => exact ⟨k + 1, by omega, by go_num, fun j hj => (by
            by_cases e : j < k
            · exact (unhide HG).1 j e
            · obtain rfl : j = k := by omega
              rw [unhide HX]
              exact ⟨q1, fun q => absurd q (by omega)⟩), (unhide HGy).1, (unhide HGy).2⟩
          case measure => simp [intOf]; omega
        · obtain ⟨j, rfl⟩ : ∃ j, k = j + 1 := ⟨k - 1, by omega⟩
          have i3 : ((j + 1 : Nat) : Int) > 0 := by omega
          obtain ⟨gl', o', e', hgl', hc'⟩ := (unhide HL).below ((unhide HGy).1.mono hB) j (by rw [unhide HN]; omega)
          cases e'
          obtain ⟨x', hx'⟩ : ∃ x', L.getD j 0 = x' := ⟨_, rfl⟩
          rw [hx'] at hc'
          have HX' := hide hx'
          have w1 : IntKind.i64.wrap (((j + 1 : Nat) : Int) - 1) = (j : Int) := by rw [wrapI_eq _ (by omega) (by omega)]; omega
          have i4 : (j : Int) < (n : Int) := by omega
          have i5 : 0 ≤ (j : Int) := by omega
          clear hx'
          by_cases q2 : x ≤ x'
          · have HR := hide (show R = false from by
              rw [unhide HV]
              refine decide_eq_false (fun q => ?_)
              have := (q (j + 1) (by rw [unhide HN]; exact hkn)).2 (by omega)
              rw [Nat.add_sub_cancel, unhide HX, unhide HX'] at this
              omega)
            go_wp2
            go_ret
            exact ⟨by rw [unhide HR]; rfl, (unhide HGy).1⟩
          · go_wp2
            go_roundw
            case rel => exact ⟨j + 1 + 1, by omega, by go_num, fun i hi => (by
              by_cases e : i < j + 1
              · exact (unhide HG).1 i e
              · obtain rfl : i = j + 1 := by omega
                rw [Nat.add_sub_cancel, unhide HX, unhide HX']
                exact ⟨q1, fun q => by omega⟩), (unhide HGy).1, (unhide HGy).2⟩
            case measure => simp [intOf]; omega
      · have HMX := hide (fun W => unhide HM x W)
        rw [decide_eq_false q1] at HMX
        have HR := hide (show R = false from by
          rw [unhide HV]
          refine decide_eq_false (fun q => ?_)
          have := (q k (by rw [unhide HN]; exact hkn)).1
          rw [unhide HX] at this
          exact q1 this)
        go_wp2_with fail
        refine (unhide HMX _).mono ?_
        rintro e y ⟨rfl, hy⟩
        have hby := (unhide HG).2.1.trans (hy.mono (unhide HG).2.1.size)
        clear hy d0 d1 d2 hc HMX
        go_wp2
        go_ret
        exact ⟨by rw [unhide HR]; rfl, hby⟩
    · have i1 : ¬ ((k : Int) < (n : Int)) := by omega
      have HR := hide (show R = true from by
        rw [unhide HV]
        refine decide_eq_true (fun j hj => hall j ?_)
        rw [unhide HN] at hj
        omega)
      clear hall hG
      go_wp2
      go_ret
      exact ⟨by rw [unhide HR]; rfl, hb⟩
theorem fits_byte {x : Int} (h : 0 ≤ x ∧ x ≤ 255) : fitsP x 1 := ⟨h.1, Int.ediv_eq_zero_of_lt h.1 (by omega)⟩
/-- a row of numbers laid down -/
theorem numLK {w wr : World} {base b B : Nat} {v : Value} {l : List Int} (h : WPost base b v l 0 w wr) (hb : base ≤ w.heap.size) (p : Option Addr) (c n : Nat) (L : List Int) (hn : L.length = n) (hL : Lst wr B p L) (hB : B ≤ base) (hf : ∀ k, k < L.length → 0 ≤ L.getD k 0 ∧ L.getD k 0 ≤ 255) (hsz : l.length ≤ 1000) (h8 : n ≤ 8) :
    Calls Tryz.prog 29 #[.pointer (some ⟨b, 0, none⟩), .int .i64 1, .slice p n c] wr fun e w' => e = .returned (.tuple #[]) ∧ WPost base b v (l ++ outN 1 L) 0 w w' := by
  subst hn
  obtain ⟨v1, h1, h2, h3⟩ := h
  have hE : errN 1 L = 0 := by
    rw [errN, if_neg (by omega), if_pos]
    intro x hx
    obtain ⟨k, hk, rfl⟩ := List.getElem_of_mem hx
    have := hf k hk
    rw [List.getD_eq_getElem?_getD, List.getElem?_eq_getElem hk] at this
    exact fits_byte this
  have hs := h2.size
  refine (num_any wr base b v1 l 0 h1 (by omega) 1 L p c ?_ (by omega)).mono ?_
  · rcases Nat.eq_zero_or_pos L.length with h0 | h0
    · exact .inl (List.eq_nil_of_length_eq_zero h0)
    · obtain ⟨g, o, rfl, hg, _⟩ := hL 0 h0
      refine .inr ⟨g, o, rfl, by omega, fun q => ?_, fun j hj => ?_⟩
      · rcases q with q | q
        · have := h1.2.2
          omega
        · have := (h1.2.1.lt g q).1
          omega
      · obtain ⟨g', o', e, _, hc⟩ := hL j hj
        cases e
        exact hc
  · rintro e w' ⟨rfl, hp⟩
    rw [hE, wl_good, we_good] at hp
    exact ⟨rfl, WPost.trans h2 h3 hp⟩
end Go.Proofs.YtclgkgaobjcifaaGreatDoor

namespace Go.Proofs.YtclgkgaobjcifaaGreatDoor
open Go.RowKit
set_option maxRecDepth 100000
theorem WPost.up {w wr : World} {base b B : Nat} {v : Value} {l : List Int} {e : Int} (h : WPost base b v l e w wr) (hW : Wtr w base b v l e ∨ (base ≤ b ∧ ∀ k, v.ownBlock = some k → base ≤ k)) (hB : B ≤ base) (hs : B ≤ w.heap.size) : Below B w wr := by
  obtain ⟨v', h1, h2, h3⟩ := h
  have q : base ≤ b ∧ ∀ k, v.ownBlock = some k → base ≤ k := hW.elim (fun hW => ⟨hW.2.2, fun k hk => (hW.2.1.lt k hk).1⟩) id
  refine h2.below hs (fun k hk hf => ?_)
  rcases hf with hf | hf
  · have := q.1
    omega
  · have := q.2 k hf
    omega
set_option maxHeartbeats 2000000 in
theorem plLay_any {w wr : World} {base b B : Nat} {v : Value} {l : List Int} (h : WPost base b v l 0 w wr) (hb : base ≤ w.heap.size) (p : Prt) (L : List Int) (hm : L.length = p.m) (hL : Lst wr B p.p L) (hB : B ≤ base) (hsz : l.length ≤ 1000) (hm9 : p.m ≤ 9223372036854775807) :
    Calls Tryz.prog 137 #[.agg #[], .pointer (some ⟨b, 0, none⟩), .agg p.cs] wr fun e w' => e = .returned (.bool (plB L)) ∧ WPost base b v (if plB L = true then l ++ outN 1 L else l) 0 w w' := by
  obtain ⟨n, t, q, m, c⟩ := p
  have hs := h.size
  show Calls Tryz.prog 137 #[.agg #[], .pointer (some ⟨b, 0, none⟩), .agg #[.int .i64 n, .string t, .slice q m c]] wr fun e w' => e = .returned (.bool (plB L)) ∧ WPost base b v (if plB L = true then l ++ outN 1 L else l) 0 w w'
  simp only at hm hL hm9
  obtain ⟨B1, B2, hbl, hs2⟩ := two_boxes wr #[] #[.int .i64 n, .string t, .slice q m c] 135 103
  obtain ⟨g, hg⟩ : ∃ g, wr.heap.size = g := ⟨_, rfl⟩
  obtain ⟨y, hy⟩ : ∃ Z, (wr.alloc (.cells #[] 135)).alloc (.cells #[.int .i64 n, .string t, .slice q m c] 103) = Z := ⟨_, rfl⟩
  rw [hg] at B1 B2 hs2 hbl
  rw [hy] at B1 B2 hbl hs2
  have hWy := h.below (by rw [hg]; exact hbl)
  have hLy : Lst y B q L := hL.below (hbl.mono (by omega))
  have a3 : y.cell? ⟨g + 1, 2, none⟩ = some (.slice q m c) := by rw [B2.cell]; rfl
  have HN := hide hm
  have HLY := hide hLy
  have HWY := hide hWy
  have HV := hide (show plB L = decide (L.length = 8 ∧ ∀ k, k < L.length → 0 ≤ L.getD k 0 ∧ L.getD k 0 ≤ 255) from rfl)
  obtain ⟨R, hR⟩ : ∃ R, plB L = R := ⟨_, rfl⟩
  rw [hR] at HV ⊢
  obtain ⟨lx, hlx⟩ : ∃ lx, (if R = true then l ++ outN 1 L else l) = lx := ⟨_, rfl⟩
  rw [hlx]
  have HLX := hide hlx
  clear hlx
  clear B1 B2 hbl hs2 h hL hLy hWy hR hm
  by_cases hq : m = 8
  · have HNM := hide (fun (hf : ∀ k, k < L.length → 0 ≤ L.getD k 0 ∧ L.getD k 0 ≤ 255) => numLK (unhide HWY) hb q c m L (unhide HN) (unhide HLY) hB hf hsz (by omega))
    obtain ⟨l', hl'⟩ : ∃ l', l ++ outN 1 L = l' := ⟨_, rfl⟩
    rw [hl'] at HNM
    have HL' := hide hl'
    have hne : ((m : Int) != 8) = false := by simp; omega
    have HQ := hide hq
    clear hq hl'
    go_enter Tryz.func137, Tryz.ntmps137
    go_wp2
    clear hne
    go_loopw [16] (fun i wr2 => ∃ k : Nat, k ≤ m ∧ i = .int .i64 (k : Int) ∧ (∀ j, j < k → 0 ≤ L.getD j 0 ∧ L.getD j 0 ≤ 255) ∧ wr2 = y) (fun i _ => m - (intOf i).toNat)
    case atStart => exact ⟨0, by omega, rfl, fun j hj => absurd hj (by omega), rfl⟩
    case round =>
      obtain ⟨k, hk, rfl, hall, hw⟩ := hrel
      subst hw
      by_cases hkn : k < m
      · have i1 : (k : Int) < (m : Int) := by omega
        have i2 : 0 ≤ (k : Int) := by omega
        obtain ⟨gl, o, rfl, hgl, hc⟩ := unhide HLY k (by rw [unhide HN]; exact hkn)
        obtain ⟨x, hx⟩ : ∃ x, L.getD k 0 = x := ⟨_, rfl⟩
        rw [hx] at hc
        have HX := hide hx
        have HALL := hide hall
        clear hx hall
        have bad : ¬ (0 ≤ x ∧ x ≤ 255) → R = false := fun hn => by
          rw [unhide HV]
          refine decide_eq_false (fun q => hn ?_)
          have := q.2 k (by rw [unhide HN]; exact hkn)
          rw [unhide HX] at this
          exact this
        have HBAD := hide bad
        clear bad
        by_cases q1 : x < 0
        · have HR := hide (unhide HBAD (by omega))
          clear HBAD
          go_wp2
          go_ret
          exact ⟨by rw [unhide HR]; rfl, by rw [← unhide HLX, unhide HR, if_neg (by decide)]; exact unhide HWY⟩
        · by_cases q2 : x > 255
          · have HR := hide (unhide HBAD (by omega))
            clear HBAD
            go_wp2
            go_ret
            exact ⟨by rw [unhide HR]; rfl, by rw [← unhide HLX, unhide HR, if_neg (by decide)]; exact unhide HWY⟩
          · clear HBAD
            go_wp2
            go_roundw
            case rel => exact ⟨k + 1, by omega, by go_num, fun j hj => (by
              by_cases e : j < k
              · exact unhide HALL j e
              · obtain rfl : j = k := by omega
                rw [unhide HX]
                omega), by first | rfl | trivial⟩
            case measure => simp [intOf]; omega
      · have i1 : ¬ ((k : Int) < (m : Int)) := by omega
        have hf : ∀ k, k < L.length → 0 ≤ L.getD k 0 ∧ L.getD k 0 ≤ 255 := fun j hj => hall j (by rw [unhide HN] at hj; omega)
        have HR := hide (show R = true from by
          rw [unhide HV]
          exact decide_eq_true ⟨by rw [unhide HN]; exact unhide HQ, hf⟩)
        have HNF := hide (unhide HNM hf)
        clear hf hall HNM
        go_wp2_with fail
        refine (unhide HNF).mono ?_
        rintro e z ⟨rfl, hz⟩
        have HZ := hide hz
        clear hz HNF
        go_wp2
        go_ret
        exact ⟨by rw [unhide HR]; rfl, by rw [← unhide HLX, unhide HR, if_pos rfl, unhide HL']; exact unhide HZ⟩
  · have hne : ((m : Int) != 8) = true := by simp; omega
    have HR := hide (show R = false from by
      rw [unhide HV]
      refine decide_eq_false (fun q => hq ?_)
      rw [← unhide HN]
      exact q.1)
    go_enter Tryz.func137, Tryz.ntmps137
    go_wp2
    go_ret
    exact ⟨by rw [unhide HR]; rfl, by rw [← unhide HLX, unhide HR, if_neg (by decide)]; exact unhide HWY⟩
set_option maxHeartbeats 2000000 in
theorem voLay_any {w wr : World} {base b B : Nat} {v : Value} {l : List Int} (h : WPost base b v l 0 w wr) (hbw : b < w.heap.size) (hW : base ≤ b ∧ ∀ k, v.ownBlock = some k → base ≤ k) (p : Prt) (L : List Int) (hm : L.length = p.m) (hL : Lst wr B p.p L) (hB : B ≤ base) (hsz : l.length ≤ 900) (hm9 : p.m ≤ 9223372036854775807) :
    Calls Tryz.prog 141 #[.agg #[], .pointer (some ⟨b, 0, none⟩), .agg p.cs] wr fun e w' => e = .returned (.bool (voB L)) ∧ WPost base b v (if voB L = true then l ++ voL L else l) 0 w w' := by
  obtain ⟨n, t, q, m, c⟩ := p
  have hs := h.size
  show Calls Tryz.prog 141 #[.agg #[], .pointer (some ⟨b, 0, none⟩), .agg #[.int .i64 n, .string t, .slice q m c]] wr fun e w' => e = .returned (.bool (voB L)) ∧ WPost base b v (if voB L = true then l ++ voL L else l) 0 w w'
  simp only at hm hL hm9
  obtain ⟨B1, B2, hbl, hs2⟩ := two_boxes wr #[] #[.int .i64 n, .string t, .slice q m c] 136 103
  obtain ⟨g, hg⟩ : ∃ g, wr.heap.size = g := ⟨_, rfl⟩
  obtain ⟨y, hy⟩ : ∃ Z, (wr.alloc (.cells #[] 136)).alloc (.cells #[.int .i64 n, .string t, .slice q m c] 103) = Z := ⟨_, rfl⟩
  rw [hg] at B1 B2 hs2 hbl
  rw [hy] at B1 B2 hbl hs2
  have hWy := h.below (by rw [hg]; exact hbl)
  have hLy : Lst y B q L := hL.below (hbl.mono (by omega))
  have a3 : y.cell? ⟨g + 1, 2, none⟩ = some (.slice q m c) := by rw [B2.cell]; rfl
  have hgw : w.heap.size ≤ g := by rw [← hg]; exact hs
  have HN := hide hm
  have HLY := hide hLy
  have HWY := hide hWy
  have HB2 := hide B2
  have HV := hide (show voB L = (decide (L.length ≤ 8) && areV L) from rfl)
  obtain ⟨R, hR⟩ : ∃ R, voB L = R := ⟨_, rfl⟩
  rw [hR] at HV ⊢
  obtain ⟨lx, hlx⟩ : ∃ lx, (if R = true then l ++ voL L else l) = lx := ⟨_, rfl⟩
  rw [hlx]
  have HLX := hide hlx
  clear hlx
  clear B1 B2 h hL hLy hWy hR hm
  by_cases hq : m ≤ 8
  · have q1 : ¬ ((m : Int) > 8) := by omega
    have HAV := hide (areVolumes_any y B q c m L (unhide HN) (unhide HLY) (by omega) hq)
    obtain ⟨A, hA⟩ : ∃ A, areV L = A := ⟨_, rfl⟩
    rw [hA] at HAV HV
    have HAA := hide hA
    have HRA := hide (show R = A from by rw [unhide HV, decide_eq_true (by rw [unhide HN]; exact hq)]; rfl)
    clear hA HV
    go_enter Tryz.func141, Tryz.ntmps141
    go_wp2_with fail
    refine (unhide HAV).mono ?_
    rintro e y1 ⟨rfl, hy1⟩
    have hWy1 := (unhide HWY).below hy1
    have hLy1 := (unhide HLY).below (hy1.mono (by omega))
    have hB21 := (unhide HB2).below hy1 (unhide HB2).lt
    have b3 : y1.cell? ⟨g + 1, 2, none⟩ = some (.slice q m c) := by rw [hB21.cell]; rfl
    have HWY1 := hide hWy1
    have HLY1 := hide hLy1
    have HB21 := hide hB21
    clear hy1 hWy1 hLy1 hB21 HWY HLY HB2 HAV a3
    cases A with
    | false =>
      go_wp2
      go_ret
      exact ⟨by rw [unhide HRA]; rfl, by rw [← unhide HLX, unhide HRA, if_neg (by decide)]; exact unhide HWY1⟩
    | true =>
      have hfm : fitsP (m : Int) 1 := fits_byte ⟨by omega, by omega⟩
      obtain ⟨v1, h1, h2, h3⟩ := unhide HWY1
      have hs1 := h2.size
      have hbb := h1.2.2
      have hup : ∀ (l' : List Int) (z : World), WPost base b v1 l' 0 y1 z → Lst z B q L ∧ z.cell? ⟨g + 1, 2, none⟩ = some (.slice q m c) := fun l' z hz => by
        refine ⟨(unhide HLY1).below (hz.up (.inr ⟨hbb, fun k hk => (h1.2.1.lt k hk).1⟩) hB (by omega)), ?_⟩
        rw [(hz.blk (unhide HB21) (fp_blk h1 (unhide HB21) (by decide) (by omega))).cell]
        rfl
      have HUP := hide hup
      have HT := hide (And.intro h2 h3)
      have HW1 := hide (WPost.refl h1)
      have hb1 : base ≤ y1.heap.size := by omega
      have HN1 := hide (wnumK (unhide HW1) hb1 1 (by decide) (by decide) (m : Int) hfm (by omega) 1 rfl _ rfl)
      have HVV := hide (show ∀ k, k < L.length → 0 ≤ L.getD k 0 ∧ L.getD k 0 ≤ 255 from fun k hk => by
        have h9 := of_decide_eq_true (show decide (∀ k, k < L.length → (1 ≤ L.getD k 0 ∧ L.getD k 0 ≤ 99) ∧ (0 < k → L.getD (k - 1) 0 < L.getD k 0)) = true from unhide HAA) k hk
        omega)
      clear hfm hup h1 h2 h3 HWY1 HLY1 HB21
      go_wp2_with fail
      refine (unhide HN1).mono ?_
      rintro e y2 ⟨rfl, hW2⟩
      obtain ⟨hL2, c2⟩ := unhide HUP _ y2 hW2
      have HN2 := hide (numLK hW2 hb1 q c m L (unhide HN) hL2 hB (unhide HVV) (by rw [List.length_append, numB_len]; omega) hq)
      clear hW2 hL2 HN1 b3
      go_wp2_with fail
      refine (unhide HN2).mono ?_
      rintro e y3 ⟨rfl, hW3⟩
      obtain ⟨hL3, c3⟩ := unhide HUP _ y3 hW3
      have w1 : IntKind.i64.wrap (8 - (m : Int)) = ((8 - m : Nat) : Int) := by rw [wrapI_eq _ (by omega) (by omega)]; omega
      have w2 : IntKind.i64.wrap (1 * ((8 - m : Nat) : Int)) = ((8 - m : Nat) : Int) := by rw [wrapI_eq _ (by omega) (by omega)]; omega
      have HNO := hide (noughts_any (8 - m) (by omega) y3)
      have HW3 := hide hW3
      have hout : (outN 1 L).length ≤ 8 := by rw [outN_len, unhide HN]; omega
      obtain ⟨d, hd⟩ : ∃ d, 8 - m = d := ⟨_, rfl⟩
      rw [hd] at w1 w2 HNO
      have hd8 : d ≤ 8 := by omega
      have hz0 : Bytes (List.replicate d (0 : Int)) := fun j => by
        rw [List.getD_eq_getElem?_getD, List.getElem?_replicate]
        split <;> decide
      have hzn : nums (strOfNums (List.replicate d (0 : Int))) = List.replicate d 0 := nums_strOfNums _ hz0
      have hzs : (strOfNums (List.replicate d (0 : Int))).size = d := by rw [← nums_len, hzn, List.length_replicate]
      have HVL := hide (show l ++ voL L = l ++ numB (m : Int) 1 ++ outN 1 L ++ nums (strOfNums (List.replicate d (0 : Int))) from by rw [hzn, voL, unhide HN, hd]; simp)
      obtain ⟨S, hS⟩ : ∃ S, strOfNums (List.replicate d (0 : Int)) = S := ⟨_, rfl⟩
      rw [hS] at HNO HVL hzs
      clear hW3 hL3 HN2 c2 hd hz0 hzn hS
      go_wp2_with fail
      refine (unhide HNO).mono ?_
      rintro e y4 ⟨rfl, hy4⟩
      have hW4 := (unhide HW3).below hy4
      have HR4 := hide (rawK hW4 hb1 S (by simp only [List.length_append, numB_len]; omega))
      rw [wl_good] at HR4
      clear hy4 hW4 HNO HW3
      go_wp2_with fail
      refine (unhide HR4).mono ?_
      rintro e y5 ⟨rfl, hW5⟩
      have HW5 := hide hW5
      clear hW5 HR4
      go_wp2
      go_ret
      exact ⟨by rw [unhide HRA]; rfl, by rw [← unhide HLX, unhide HRA, if_pos rfl, unhide HVL]; exact WPost.trans (unhide HT).1 (unhide HT).2 (unhide HW5)⟩
  · have q1 : ((m : Int) > 8) := by omega
    have HR := hide (show R = false from by
      rw [unhide HV, decide_eq_false (by rw [unhide HN]; exact hq)]
      rfl)
    go_enter Tryz.func141, Tryz.ntmps141
    go_wp2
    go_ret
    exact ⟨by rw [unhide HR]; rfl, by rw [← unhide HLX, unhide HR, if_neg (by decide)]; exact unhide HWY⟩
end Go.Proofs.YtclgkgaobjcifaaGreatDoor
