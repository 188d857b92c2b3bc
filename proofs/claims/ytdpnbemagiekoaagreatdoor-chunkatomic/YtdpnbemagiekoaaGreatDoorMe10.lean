import Derived.Shelf.Sort.Plain
import Derived.Ground.Names2Prog
import Derived.Shelf.Slices.CompactI
import Derived.Shelf.Slices.In.SortNone
import Derived.Test.YtdpnbemagiekoaaGreatDoorMe09
import Derived.Lib.RowBridge
import Derived.Lib.OwnBridge
import Derived.Lib.AppendIntMem
set_option maxHeartbeats 2000000
set_option maxRecDepth 100000
/-
 DERIVED: THE SHELF's CONTRACTS AT THIS DUMP, IN PLAIN WORDS (tools/lay-plain.mjs out of 'TryzShelf.lean', which tools/lay-shelf.mjs wrote): THE SAME DECLARATIONS UNDER THE SAME NAMES: 'import', 'namespace', 'open', 'def', 'theorem' AND NOTHING ELSE: no command of the shelf's: FOR A HAND-IN. Each laying: the table of numbers ('.._ren') and one theorem, a field a fact of the dump's own or the kernel's comparison; each contract: ONE APPLICATION.
-/
namespace Go.Proofs.YtdpnbemagiekoaaGreatDoor
section
open Go.Shelf
def Tryz.lays189_ren : Go.Shelf.Ren := ⟨fun | 189 => 182 | 125 => 253 | 257 => 252 | 128 => 302 | 129 => 303 | 294 => 293 | 295 => 294 | 296 => 295 | 297 => 296 | 298 => 297 | 299 => 298 | 216 => 299 | 300 => 300 | 301 => 301 | 328 => 322 | 329 => 323 | 330 => 324 | 331 => 325 | 332 => 326 | 215 => 327 | 343 => 339 | n => n, fun | 28 => 53 | 3 => 3 | 46 => 212 | 0 => 0 | 51 => 149 | 53 => 289 | 4 => 4 | 183 => 349 | 182 => 348 | 131 => 36 | 5 => 5 | 9 => 9 | 218 => 365 | 222 => 369 | 228 => 386 | 229 => 56 | n => n, fun | n => n⟩
theorem Tryz.lays189 : Go.Proofs.Lays.n189 Tryz.prog Tryz.lays189_ren := {
 mixed := by kernel_rfl
 f125 := Tryz.func253.trans (congrArg some (by kernel_rfl))
 f128 := Tryz.func302.trans (congrArg some (by kernel_rfl))
 f129 := Tryz.func303.trans (congrArg some (by kernel_rfl))
 f189 := Tryz.func182.trans (congrArg some (by kernel_rfl))
 f215 := Tryz.func327.trans (congrArg some (by kernel_rfl))
 f216 := Tryz.func299.trans (congrArg some (by kernel_rfl))
 f257 := Tryz.func252.trans (congrArg some (by kernel_rfl))
 f294 := Tryz.func293.trans (congrArg some (by kernel_rfl))
 f295 := Tryz.func294.trans (congrArg some (by kernel_rfl))
 f296 := Tryz.func295.trans (congrArg some (by kernel_rfl))
 f297 := Tryz.func296.trans (congrArg some (by kernel_rfl))
 f298 := Tryz.func297.trans (congrArg some (by kernel_rfl))
 f299 := Tryz.func298.trans (congrArg some (by kernel_rfl))
 f300 := Tryz.func300.trans (congrArg some (by kernel_rfl))
 f301 := Tryz.func301.trans (congrArg some (by kernel_rfl))
 f328 := Tryz.func322.trans (congrArg some (by kernel_rfl))
 f329 := Tryz.func323.trans (congrArg some (by kernel_rfl))
 f330 := Tryz.func324.trans (congrArg some (by kernel_rfl))
 f331 := Tryz.func325.trans (congrArg some (by kernel_rfl))
 f332 := Tryz.func326.trans (congrArg some (by kernel_rfl))
 f343 := Tryz.func339.trans (congrArg some (by kernel_rfl))
 t0 := Tryz.underlying0
 a0 := Tryz.isAgg0
 z0 := Tryz.sizeOf0
 v0 := Tryz.zeroValue0
 t3 := Tryz.underlying3
 a3 := Tryz.isAgg3
 z3 := Tryz.sizeOf3
 v3 := Tryz.zeroValue3
 t4 := Tryz.underlying4
 a4 := Tryz.isAgg4
 z4 := Tryz.sizeOf4
 v4 := Tryz.zeroValue4
 t5 := Tryz.underlying5
 a5 := Tryz.isAgg5
 z5 := Tryz.sizeOf5
 v5 := Tryz.zeroValue5
 t9 := Tryz.underlying9
 a9 := Tryz.isAgg9
 z9 := Tryz.sizeOf9
 v9 := Tryz.zeroValue9
 t28 := Tryz.underlying53
 a28 := Tryz.isAgg53
 z28 := Tryz.sizeOf53
 v28 := Tryz.zeroValue53
 t46 := Tryz.underlying212
 a46 := Tryz.isAgg212
 z46 := Tryz.sizeOf212
 v46 := Tryz.zeroValue212
 t51 := Tryz.underlying149
 a51 := Tryz.isAgg149
 z51 := Tryz.sizeOf149
 v51 := Tryz.zeroValue149
 t53 := Tryz.underlying289
 a53 := Tryz.isAgg289
 z53 := Tryz.sizeOf289
 v53 := Tryz.zeroValue289
 t131 := Tryz.underlying36
 a131 := Tryz.isAgg36
 z131 := Tryz.sizeOf36
 v131 := Tryz.zeroValue36
 t182 := Tryz.underlying348
 a182 := Tryz.isAgg348
 z182 := Tryz.sizeOf348
 v182 := Tryz.zeroValue348
 t183 := Tryz.underlying349
 a183 := Tryz.isAgg349
 z183 := Tryz.sizeOf349
 v183 := Tryz.zeroValue349
 t218 := Tryz.underlying365
 a218 := Tryz.isAgg365
 z218 := Tryz.sizeOf365
 v218 := Tryz.zeroValue365
 t222 := Tryz.underlying369
 a222 := Tryz.isAgg369
 z222 := Tryz.sizeOf369
 v222 := Tryz.zeroValue369
 t228 := Tryz.underlying386
 a228 := Tryz.isAgg386
 z228 := Tryz.sizeOf386
 v228 := Tryz.zeroValue386
 t229 := Tryz.underlying56
 a229 := Tryz.isAgg56
 z229 := Tryz.sizeOf56
 v229 := Tryz.zeroValue56 }
open Go.Sort Go.RowKit in
theorem Tryz.slices_Sort_int (blk off cap : Nat) (zs : List Int) (w : World) (hH : Holds (Value.int .i64) w blk off zs.toArray) (hblk : blk < w.heap.size) (hsz : zs.length < 4611686018427387904) :
  Calls Tryz.prog 182 #[.slice (some ⟨blk, off, none⟩) zs.length cap] w fun e w' =>
   e = .returned (.tuple #[]) /\ ∃ n os, w' = grow (putRow (Value.int .i64) (Sort.ahead w n) blk off (zs.mergeSort fun x y => decide (x <= y)).toArray) os := Any.slices_Sort_int Tryz.lays189 blk off cap zs w hH hblk hsz
def Tryz.laysNm220_ren : Go.Shelf.Ren := ⟨fun | 20 => 183 | n => n, fun | 22 => 53 | 3 => 3 | 4 => 4 | 0 => 0 | n => n, fun | n => n⟩
theorem Tryz.laysNm220 : Go.Proofs.Lays2.n20 Tryz.prog Tryz.laysNm220_ren := {
 mixed := by kernel_rfl
 f20 := Tryz.func183.trans (congrArg some (by kernel_rfl))
 t0 := Tryz.underlying0
 a0 := Tryz.isAgg0
 z0 := Tryz.sizeOf0
 v0 := Tryz.zeroValue0
 t3 := Tryz.underlying3
 a3 := Tryz.isAgg3
 z3 := Tryz.sizeOf3
 v3 := Tryz.zeroValue3
 t4 := Tryz.underlying4
 a4 := Tryz.isAgg4
 z4 := Tryz.sizeOf4
 v4 := Tryz.zeroValue4
 t22 := Tryz.underlying53
 a22 := Tryz.isAgg53
 z22 := Tryz.sizeOf53
 v22 := Tryz.zeroValue53
 i3 := by kernel_rfl }
open Go.RowKit Go.Lib Go.Sort in
theorem Tryz.slices_Compact_int_arr (blk off cap : Nat) (d : Array Int) (w : World) (hH : Holds encI w blk off d) (hsz : d.size <= 9223372036854775807) (hcap : d.size <= cap) :
  Calls Tryz.prog 183 #[.slice (some ⟨blk, off, none⟩) d.size cap] w fun e w' => e = .returned (.slice (some ⟨blk, off, none⟩) (compactUpTo d d.size).length cap) /\ ∃ q, w' = putRow encI (Sort.ahead w q) blk off (compactUpTo d d.size ++ List.replicate (d.size - (compactUpTo d d.size).length) 0).toArray := Any.slices_Compact_int_arr Tryz.laysNm220 blk off cap d w hH hsz hcap
open Go.RowKit Go.Lib Go.Sort in
theorem Tryz.slices_Compact_int (blk off cap : Nat) (zs : List Int) (w : World) (hH : Holds (Value.int .i64) w blk off zs.toArray) (hsz : zs.length <= 9223372036854775807) (hcap : zs.length <= cap) :
  Calls Tryz.prog 183 #[.slice (some ⟨blk, off, none⟩) zs.length cap] w fun e w' => e = .returned (.slice (some ⟨blk, off, none⟩) (Lib.compact zs).length cap) /\ ∃ q, w' = putRow (Value.int .i64) (Sort.ahead w q) blk off (Lib.compact zs ++ List.replicate (zs.length - (Lib.compact zs).length) 0).toArray := Any.slices_Compact_int Tryz.laysNm220 blk off cap zs w hH hsz hcap
open Go.RowKit Go.Lib Go.Sort in
theorem Tryz.slices_Compact_int_empty (a : Option Addr) (cap : Nat) (w : World) :
  Calls Tryz.prog 183 #[.slice a 0 cap] w fun e w' => e = .returned (.slice a 0 cap) /\ w' = w := Any.slices_Compact_int_empty Tryz.laysNm220 a cap w
open Go.RowKit Go.Sort in
theorem Tryz.slices_Sort_int_none (p : Option Addr) (cap : Nat) (w : World) :
  Calls Tryz.prog 182 #[.slice p 0 cap] w fun e w' => e = .returned (.tuple #[]) /\ w' = w := Any.slices_Sort_int_none Tryz.lays189 p cap w
end
section
open Go.RowKit
theorem zGa (zs : List Int) : (Lib.compact (zs.mergeSort fun x y => decide (x <= y))).length < zs.length ↔ ¬ zs.Nodup := by
 have hp := List.mergeSort_perm zs (fun x y => decide (x <= y))
 have hs : (zs.mergeSort fun x y => decide (x <= y)).Pairwise (fun x y => decide (x <= y) = true) := List.pairwise_mergeSort (fun a b c h1 h2 => by simp at *; omega) (fun a b => by simp; omega) zs
 rw [<- hp.nodup_iff, <- hp.length_eq]
 generalize (zs.mergeSort fun x y => decide (x <= y)) = S at *
 have hle := Lib.compact_length_le S
 constructor
 ·intro h hn
  have : Lib.compact S = S := Lib.compact_all S (fun j hj => by
   by_cases h0 : j = 0
   ·exact Lib.keeps_lt_one _ j (by omega)
   ·refine Lib.keeps_pos ?_
    intro e
    have e1 : S.toArray[j]! = S[j] := by simp [hj]
    have e2 : S.toArray[j - 1]! = S[j - 1]'(by omega) := by simp [show j - 1 < S.length by omega]
    rw [e1, e2] at e
    exact (List.pairwise_iff_getElem.1 (show S.Pairwise (· ≠ ·) from hn)) (j - 1) j (by omega) hj (by omega) e.symm)
  rw [this] at h
  omega
 ·intro h
  refine Nat.lt_of_le_of_ne hle (fun e => h ?_)
  have hk : ∀ j, j < S.length -> Lib.keeps S.toArray j = true := by
   unfold Lib.compact Lib.compactUpTo at e
   rw [List.length_map] at e
   have e' : ((List.range S.length).filter (Lib.keeps S.toArray)).length = (List.range S.length).length := by rw [e, List.length_range]
   have := List.length_filter_eq_length_iff.1 e'
   exact fun j hj => this j (List.mem_range.2 hj)
  rw [List.nodup_iff_pairwise_ne, List.pairwise_iff_getElem]
  intro i j hi hj hij e
  have h1 := hk j hj
  have e1 : S.toArray[j]! = S[j] := by simp [hj]
  have e2 : S.toArray[j - 1]! = S[j - 1]'(by omega) := by simp [show j - 1 < S.length by omega]
  have hne : S[j] ≠ S[j - 1]'(by omega) := fun q => by
   have := Lib.keeps_neg (d := S.toArray) (m := j) (by omega) (by rw [e1, e2]; exact q)
   rw [this] at h1
   cases h1
  rw [List.pairwise_iff_getElem] at hs
  have a1 := hs (j - 1) j (by omega) hj (by omega)
  simp at a1
  by_cases hq : i = j - 1
  ·subst hq
   exact hne e.symm
  ·have a2 := hs i (j - 1) hi (by omega) (by omega)
   simp at a2
   omega
def zE3 (size : Int) (x : Wr1) : Bool := !decide (19 <= x.1 /\ x.1 < size)
def zE4 (x : Wr1) : Bool := decide (x.2.size ≠ 256)
def refE (l : List Wr1) (size : Int) : Int := if 16 < l.length then 50 else if l.any (zE3 size) then 52 else if ¬ (secs l).Nodup then 51 else if l.any zE4 then 42 else 0
theorem zFt (z size : Int) (w : World) : Calls Tryz.prog 180 #[.int .i64 z, .int .i64 size] w fun e w' => e = .returned (.bool (decide (19 <= z /\ z < size))) /\ w' = w := by
 by_cases h : 19 <= z
 ·go_enter Tryz.func180, Tryz.ntmps180
  go_wp2
  go_ret
  exact ⟨by simp [h], rfl⟩
 ·go_enter Tryz.func180, Tryz.ntmps180
  go_wp2
  go_ret
  exact ⟨by simp; omega, rfl⟩
def zMY (g : Nat) (lb : Array Value) (q : Wr1 -> Bool) (w : World) : Prop := ∀ (W : World) (x : Wr1), Below w.heap.size w W -> Calls Tryz.prog g (#[.agg #[.int .i64 x.1, .string x.2]] ++ lb) W fun e w' => e = .returned (.bool (q x)) /\ Below w.heap.size w w'
theorem zKz (size : Int) (B : Nat) (w : World) (hB : B < w.heap.size) (hc : w.cell? ⟨B, 0, none⟩ = some (.int .i64 size)) : zMY 179 #[.pointer (some ⟨B, 0, none⟩)] (zE3 size) w := fun W x hb => by
 have hc2 : W.cell? ⟨B, 0, none⟩ = some (.int .i64 size) := (hb.cell (p := ⟨B, 0, none⟩) hB).trans hc
 have hlt : B < W.heap.size := Nat.lt_of_lt_of_le hB hb.size
 obtain ⟨z, t⟩ := x
 show Calls Tryz.prog 179 #[.agg #[.int .i64 z, .string t], .pointer (some ⟨B, 0, none⟩)] W fun e w' => e = .returned (.bool (!decide (19 <= z /\ z < size))) /\ Below w.heap.size w w'
 have HF := uB (fun W => zFt z size W)
 obtain ⟨x1, hx1⟩ : ∃ x, x = W.alloc (Obj.cells #[.int .i64 z, .string t] 112) := ⟨_, rfl⟩
 have hb1 : Below w.heap.size w x1 := by rw [hx1]; exact hb.alloc hb.size _
 have HB := uB hb1
 have hne : B ≠ W.heap.size := by omega
 generalize decide (19 <= z /\ z < size) = r at *
 clear hb hb1
 go_enter Tryz.func179, Tryz.ntmps179
 go_wp2_with fail
 rw [<- hx1]
 refine (uA HF _).mono ?_
 rintro e x2 ⟨rfl, rfl⟩
 replace hx1 := uB hx1
 go_wp2
 go_ret
 exact ⟨rfl, uA HB⟩
theorem zKT (w : World) : zMY 184 #[] zE4 w := fun W x hb => by
 obtain ⟨z, t⟩ := x
 show Calls Tryz.prog 184 #[.agg #[.int .i64 z, .string t]] W fun e w' => e = .returned (.bool (decide (t.size ≠ 256))) /\ Below w.heap.size w w'
 have e : decide (t.size ≠ 256) = ((t.size : Int) != 256) := by
  by_cases h : t.size = 256
  ·simp [h]
  ·have : ¬ ((t.size : Int) = 256) := by omega
   simp [h, this]
 rw [e]
 clear e
 go_enter Tryz.func184, Tryz.ntmps184
 go_wp2
 go_ret
 exact ⟨rfl, hb.alloc hb.size _⟩
theorem zMv (l : List Wr1) (q : Wr1 -> Bool) (k : Nat) (hk : k < l.length) : (l.drop k).any q = (q (l.getD k wr0) || (l.drop (k + 1)).any q) := by
 rw [List.drop_eq_getElem_cons hk, List.any_cons, zC2 hk]
theorem zMU (w : World) (p : Option Addr) (c : Nat) (l : List Wr1) (n : Nat) (hn : n = l.length) (hl : Wls w p l) (hz : l.length <= 1000000) (g : Nat) (lb : Array Value) (q : Wr1 -> Bool) (eg : ∀ args w, (callFunc g args).run Tryz.prog w = .ok (.enter g args) w) (hq : zMY g lb q w) :
  Calls Tryz.prog 251 #[.slice p n c, .func (.func g) #[] lb] w fun e w' => ∃ r : Int, e = .returned (.int .i64 r) /\ (decide (0 <= r) = l.any q) /\ Below w.heap.size w w' := by
 have HL := uB hl
 have HN := uB hn
 have HQ := uB hq
 have hzn : n <= 1000000 := by omega
 clear hl hn hq hz
 go_enter Tryz.func251, Tryz.ntmps251
 go_wp2
 go_loopw [8] (fun i wr => ∃ k : Nat, k <= n /\ i = .int .i64 (k : Int) /\ Hid (l.any q = (l.drop k).any q) /\ Hid (Below w.heap.size w wr)) (fun i _ => n - (intOf i).toNat)
 case atStart => exact ⟨0, by omega, rfl, uB rfl, uB (Below.refl _ _)⟩
 case round =>
  obtain ⟨k, hk, rfl, hA, hB⟩ := hrel
  obtain ⟨wo, rfl⟩ : ∃ wo, wo = wr := ⟨_, rfl⟩
  by_cases hkl : k < n
  ·have hkl2 : k < l.length := by rw [<- uA HN]; exact hkl
   obtain ⟨gb, o, rfl, hg, c0, c1⟩ := (uA HL).below (uA hB) k hkl2
   have hst := zMv l q k hkl2
   obtain ⟨z, hz⟩ : ∃ z, (l.getD k wr0).1 = z := ⟨_, rfl⟩
   obtain ⟨t, ht⟩ : ∃ t, (l.getD k wr0).2 = t := ⟨_, rfl⟩
   have hx : l.getD k wr0 = (z, t) := by rw [<- hz, <- ht]
   rw [hz] at c0
   rw [ht] at c1
   rw [hx] at hst
   have hld := zEE wo gb (o + k * 2) z t c0 c1
   have hcall := uA HQ wo (z, t) (uA hB)
   have HS := uB hst
   clear hst hz ht hx hkl2
   cases hqv : q (z, t) with
   | true =>
    rw [hqv] at hcall
    have HA := uB (show l.any q = true from by rw [uA hA, uA HS, hqv]; rfl)
    clear hA HS hB hqv
    go_wp2_with (go_at_fn g; refine hcall.mono ?_; rintro e w' ⟨rfl, hb'⟩)
    go_ret
    exact ⟨(k : Int), rfl, by rw [uA HA]; simp, hb'⟩
   | false =>
    rw [hqv] at hcall
    have HA := uB (show l.any q = (l.drop (k + 1)).any q from by rw [uA hA, uA HS, hqv]; rfl)
    clear hA HS hB hqv
    go_wp2_with (go_at_fn g; refine hcall.mono ?_; rintro e w' ⟨rfl, hb'⟩)
    have HB' := uB hb'
    clear hb'
    go_roundw
    case rel => exact ⟨k + 1, by omega, by go_num, HA, HB'⟩
    case measure => simp [intOf]; omega
  ·have hk' : k = n := by omega
   subst hk'
   have HA := uB (show l.any q = false from by rw [uA hA, uA HN, List.drop_length]; rfl)
   clear hA hkl
   go_wp2
   go_ret
   exact ⟨-1, rfl, by rw [uA HA]; rfl, uA hB⟩
theorem zGN (w : World) (p : Option Addr) (c : Nat) (l : List Wr1) (n : Nat) (hn : n = l.length) (hl : Wls w p l) (hz : l.length <= 1000000) (g : Nat) (lb : Array Value) (q : Wr1 -> Bool) (eg : ∀ args w, (callFunc g args).run Tryz.prog w = .ok (.enter g args) w) (hq : zMY g lb q w) :
  Calls Tryz.prog 178 #[.slice p n c, .func (.func g) #[] lb] w fun e w' => e = .returned (.bool (l.any q)) /\ Below w.heap.size w w' := by
 have HC := uB (zMU w p c l n hn hl hz g lb q eg hq)
 clear hl hn hq hz
 go_enter Tryz.func178, Tryz.ntmps178
 go_wp2_with fail
 refine (uA HC).mono ?_
 rintro e x1 ⟨r, rfl, hr, hb⟩
 have HB := uB hb
 have HR := uB hr
 clear hr hb
 go_wp2
 go_ret
 refine ⟨?_, uA HB⟩
 show Ending.returned (.bool (decide (0 <= r))) = _
 rw [uA HR]
end
section
open Go.RowKit
theorem zEF {B : Nat} {w0 w : World} (h : Below B w0 w) (hB : B <= w.heap.size) (os : Array Obj) : Below B w0 (Go.Sort.grow w os) :=
 ⟨h.os, h.tape, h.output, by have := h.size; simp [Go.Sort.grow]; omega, fun k hk => by
  have : (Go.Sort.grow w os).heap[k]? = w.heap[k]? := by
   show (w.heap ++ os)[k]? = _
   rw [Array.getElem?_append_left (by omega)]
  rw [this]
  exact h.block k hk⟩
theorem zLz {w : World} {g : Nat} {L : List Int} (h : Blk w g (L.map (Value.int .i64)).toArray 3) : Go.Sort.Holds (Value.int .i64) w g 0 L.toArray := fun j hj => by
 have hj' : j < L.length := by simpa using hj
 refine ⟨?_, h.frozen _⟩
 rw [Nat.zero_add, h.cell]
 simp [hj']
theorem zH5 (w : World) (p : Option Addr) (c : Nat) (l : List Wr1) (n : Nat) (hn : n = l.length) (hl : Wls w p l) (size : Int) :
  Calls Tryz.prog 113 #[.slice p n c, .int .i64 size] w fun e w' => e = .returned (.int .i64 (refE l size)) /\ Below w.heap.size w w' := by
 have HB0 := uB ((Below.refl w.heap.size w).alloc (Nat.le_refl _) (Obj.cells #[.int .i64 size] 3))
 by_cases h16 : 16 < n
 ·have hr : refE l size = 50 := by rw [refE, if_pos (by omega)]
  rw [hr]
  have h16' : (16 : Int) < (n : Int) := by omega
  clear hr hl hn
  go_enter Tryz.func113, Tryz.ntmps113
  go_wp2
  go_ret
  exact ⟨rfl, uA HB0⟩
 ·have HR := uB (show refE l size = if l.any (zE3 size) then 52 else if ¬ (secs l).Nodup then 51 else if l.any zE4 then 42 else 0 from by rw [refE, if_neg (by omega)])
  have eg1 : ∀ args w, (callFunc 179 args).run Tryz.prog w = .ok (.enter 179 args) w := enters_of Tryz.func179 (by kernel_rfl) rfl
  have eg2 : ∀ args w, (callFunc 184 args).run Tryz.prog w = .ok (.enter 184 args) w := enters_of Tryz.func184 (by kernel_rfl) rfl
  obtain ⟨x0, hx0⟩ : ∃ x, x = w.alloc (Obj.cells #[.int .i64 size] 3) := ⟨_, rfl⟩
  have hs0 : x0.heap.size = w.heap.size + 1 := by rw [hx0]; simp
  rw [<- hx0] at HB0
  have hc0 : x0.cell? ⟨w.heap.size, 0, none⟩ = some (.int .i64 size) := by rw [hx0, (Blk.new w 3 #[.int .i64 size]).cell 0]; rfl
  have hl0 : Wls x0 p l := hl.below (uA HB0)
  have HC1 := uB (zGN x0 p c l n hn hl0 (by omega) _ _ (zE3 size) eg1 (zKz size w.heap.size x0 (by omega) hc0))
  have HL := uB hl
  have HN := uB hn
  have HZ := uB hs0
  have hln : l.length <= 1000000 := by omega
  have HLN := uB hln
  have h16' : ¬ (16 : Int) < (n : Int) := by omega
  clear hl hn hs0 hc0 hl0 hln eg1
  have E2 := uB eg2
  clear eg2
  go_enter Tryz.func113, Tryz.ntmps113
  go_wp2_with fail
  rw [<- hx0]
  replace hx0 := uB hx0
  refine (uA HC1).mono ?_
  rintro e x1 ⟨rfl, hb1⟩
  have HB1 := uB ((uA HB0).trans (hb1.mono (by have := uA HZ; omega)))
  clear hb1 HC1
  cases h1 : l.any (zE3 size) with
  | true =>
   have hr : refE l size = 52 := by rw [uA HR, h1]; rfl
   have HRR := uB hr
   clear hr h1
   go_wp2
   go_ret
   exact ⟨(congrArg (fun z => Ending.returned (.int .i64 z)) (uA HRR)).symm, uA HB1⟩
  | false =>
   have HR2 := uB (show refE l size = if ¬ (secs l).Nodup then 51 else if l.any zE4 then 42 else 0 from by rw [uA HR, h1]; rfl)
   have HC2 := uB (zDy x1 p c l n (uA HN) ((uA HL).below (uA HB1)) (uA HLN))
   clear HR h1
   go_wp2_with fail
   refine (uA HC2).mono ?_
   rintro e x2 ⟨rfl, hB2, hb2⟩
   have HB2 := uB ((uA HB1).trans (hb2.mono (uA HB1).size))
   have hH2 := zLz hB2
   have hlt2 : x1.heap.size < x2.heap.size := hB2.lt
   have hsl : (secs l).length = n := by rw [uA HN]; simp [secs]
   have hcS := Tryz.slices_Sort_int x1.heap.size 0 n (secs l) x2 hH2 hlt2 (by omega)
   rw [hsl] at hcS
   have HCS := uB hcS
   have HH2 := uB (And.intro hH2 hlt2)
   have HSL := uB hsl
   have hge : w.heap.size <= x1.heap.size := (uA HB1).size
   have HGE := uB hge
   clear hB2 hb2 hH2 hlt2 hcS HC2 hsl hge
   go_wp2_with fail
   refine (uA HCS).mono ?_
   rintro e x3 ⟨rfl, k3, os3, hx3⟩
   have hms : ((secs l).mergeSort fun x y => decide (x <= y)).length = n := by rw [(List.mergeSort_perm _ _).length_eq, uA HSL]
   have hH3 : Go.Sort.Holds (Value.int .i64) x3 x1.heap.size 0 ((secs l).mergeSort fun x y => decide (x <= y)).toArray := by
    rw [hx3]
    refine Go.Sort.holds_grow _ _ _ _ _ _ ?_ (Go.Sort.holds_putRow _ _ _ _ (secs l).toArray _ (uA HH2).1 (by simp [hms, uA HSL]))
    have : (Go.Sort.putRow (Value.int .i64) (Go.Sort.ahead x2 k3) x1.heap.size 0 ((secs l).mergeSort fun x y => decide (x <= y)).toArray).heap.size = x2.heap.size := by simp [Go.Sort.putRow, Go.Sort.mapBlock, Go.Sort.ahead]
    rw [this]
    exact (uA HH2).2
   have hb3 : Below w.heap.size w x3 := by
    rw [hx3]
    refine zEF (Go.Lib.below_putRow (uA HB2) (uA HGE)) ?_ _
    have : (Go.Sort.putRow (Value.int .i64) (Go.Sort.ahead x2 k3) x1.heap.size 0 ((secs l).mergeSort fun x y => decide (x <= y)).toArray).heap.size = x2.heap.size := by simp [Go.Sort.putRow, Go.Sort.mapBlock, Go.Sort.ahead]
    rw [this]
    exact (uA HB2).size
   have hcm := zGa (secs l)
   have hcC := Tryz.slices_Compact_int x1.heap.size 0 n ((secs l).mergeSort fun x y => decide (x <= y)) x3 hH3 (by omega) (by omega)
   rw [hms] at hcC
   rw [uA HSL] at hcm
   generalize ((secs l).mergeSort fun x y => decide (x <= y)) = S at *
   have HCC := uB hcC
   have HCM := uB hcm
   have HB3 := uB hb3
   clear hx3 hms hH3 hb3 hcC hcm HCS
   go_wp2_with fail
   refine (uA HCC).mono ?_
   rintro e x4 ⟨rfl, q4, hx4⟩
   have HB4 := uB (show Below w.heap.size w x4 from by rw [hx4]; exact Go.Lib.below_putRow (uA HB3) (uA HGE))
   have hcm := uA HCM
   generalize (Lib.compact S).length = m at *
   clear hx4 HCC HCM
   by_cases hd : m < n
   ·have hr : refE l size = 51 := by rw [uA HR2, if_pos (hcm.1 hd)]
    have HRR := uB hr
    have hd' : (m : Int) < (n : Int) := by omega
    clear hr hcm
    go_wp2
    go_ret
    exact ⟨(congrArg (fun z => Ending.returned (.int .i64 z)) (uA HRR)).symm, uA HB4⟩
   ·have HR3 := uB (show refE l size = if l.any zE4 then 42 else 0 from by rw [uA HR2, if_neg (fun q => hd (hcm.2 q))])
    have HC3 := uB (zGN x4 p c l n (uA HN) ((uA HL).below (uA HB4)) (uA HLN) _ _ zE4 (uA E2) (zKT x4))
    have hd' : ¬ (m : Int) < (n : Int) := by omega
    clear hcm HR2
    go_wp2_with fail
    refine (uA HC3).mono ?_
    rintro e x5 ⟨rfl, hb5⟩
    have HB5 := uB ((uA HB4).trans (hb5.mono (uA HB4).size))
    clear hb5 HC3
    cases h5 : l.any zE4 with
    | true =>
     have hr : refE l size = 42 := by rw [uA HR3, h5]; rfl
     have HRR := uB hr
     clear hr h5
     go_wp2
     go_ret
     exact ⟨(congrArg (fun z => Ending.returned (.int .i64 z)) (uA HRR)).symm, uA HB5⟩
    | false =>
     have hr : refE l size = 0 := by rw [uA HR3, h5]; rfl
     have HRR := uB hr
     clear hr h5
     go_wp2
     go_ret
     exact ⟨(congrArg (fun z => Ending.returned (.int .i64 z)) (uA HRR)).symm, uA HB5⟩
end
section
open Go.RowKit
theorem zIm : ∀ (l : List Wr1) (k : Nat), (wrv l).take (k * 2) = wrv (l.take k)
 | [], k => by simp [wrv]
 | p :: r, 0 => by simp [wrv]
 | p :: r, k + 1 => by
  have := zIm r k
  rw [show (k + 1) * 2 = k * 2 + 1 + 1 by omega]
  simp [wrv, this]
theorem zIQ : ∀ (l : List Wr1) (k : Nat), (wrv l).drop (k * 2) = wrv (l.drop k)
 | [], k => by simp [wrv]
 | p :: r, 0 => by simp [wrv]
 | p :: r, k + 1 => by
  have := zIQ r k
  rw [show (k + 1) * 2 = k * 2 + 1 + 1 by omega]
  simp [wrv, this]
theorem zKP : ∀ (l : List Wr1) (v : Value), v ∈ wrv l -> v.oneCell' = true
 | p :: r, v, h => by
  simp only [wrv, List.mem_cons] at h
  rcases h with rfl | rfl | h
  ·rfl
  ·rfl
  ·exact zKP r v h
theorem zDB (w : World) (dT sT ty elem : TypeId) (k g o dLen dCap : Nat) (a : Addr) (sLen sCap : Nat) (cur : Array Value) (t : TypeId) (cs : List Value) (n : Nat)
  (hu : Tryz.prog.underlying dT = some (.slice elem)) (hs : (Tryz.prog.info? elem).map (·.size) = some k)
  (hg : w.heap[g]? = some (.cells cur t (0, 0))) (hn : n = Nat.min sLen dLen) (hc : cs.length = n * k)
  (hsrc : ∀ j v, cs[j]? = some v -> w.cell? (a.add j) = some v) (hfit : o + cs.length <= cur.size) (h1 : ∀ v ∈ cs, v.oneCell' = true) :
  (Builtin.copy_ #[dT, sT] ty #[.slice (some ⟨g, o, none⟩) dLen dCap, .slice (some a) sLen sCap]).run Tryz.prog w =
   .ok (goInt n) (w.setRow g (cur.toList.take o ++ cs ++ cur.toList.drop (o + cs.length)).toArray) := by
 have hl := run_loadCells_list (P := Tryz.prog) w a cs hsrc
 have hst := run_storeCells_at Tryz.prog g o t cs 0 cur w hg (by simpa using hfit) h1
 cases hq : Tryz.prog.info? elem with
 | none => simp [hq] at hs
 | some i =>
  have hi : i.size = k := by simpa [hq] using hs
  have hm : Nat.min sLen dLen * k = cs.length := by rw [<- hn, hc]
  simp [Builtin.copy_, run_underlying hu, Builtin.lenOf, Builtin.firstCells, sizeOf, typeInfo, hq, hi, hm, hl, hst, hn]
theorem zFN (w : World) (dT sT ty elem : TypeId) (k g o dLen dCap : Nat) (p : Option Addr) (sCap : Nat) (hu : Tryz.prog.underlying dT = some (.slice elem)) (hs : (Tryz.prog.info? elem).map (·.size) = some k) :
  (Builtin.copy_ #[dT, sT] ty #[.slice (some ⟨g, o, none⟩) dLen dCap, .slice p 0 sCap]).run Tryz.prog w = .ok (goInt 0) w := by
 have hl : ∀ a, (loadCells a 0).run Tryz.prog w = .ok #[] w := fun a => rfl
 cases hq : Tryz.prog.info? elem with
 | none => simp [hq] at hs
 | some i =>
  cases p <;> simp [Builtin.copy_, run_underlying hu, Builtin.lenOf, Builtin.firstCells, sizeOf, typeInfo, hq, storeCells, hl]
theorem zNk : (Tryz.prog.info? 112).map (·.size) = some 2 := by kernel_rfl
theorem zGB {o : Oper} {a : Act} {K : Act -> World -> Prop} {Q : Exit -> Act -> World -> Prop} (d x : Operand) (hop : o.op = .call { callee := .builtin .copy, args := #[d, x], argTypes := #[63, 63] })
  {wr : World} {gd no : Nat} {D src : List Wr1} (hB : Blk wr gd (wrv D).toArray 112) (k : Nat) (hkl : k = src.length) (hfit : no + k <= D.length) (dLen dCap sLen sCap : Nat) (ad : Addr) (hd : a.eval d = .slice (some ⟨gd, no * 2, none⟩) dLen dCap) (hs : a.eval x = .slice (some ad) sLen sCap) (hk : k = Nat.min sLen dLen)
  (hsrc : ∀ j v, (wrv src)[j]? = some v -> wr.cell? (ad.add j) = some v) (h : ∀ W', Blk W' gd (wrv (D.take no ++ src ++ D.drop (no + k))).toArray 112 -> Only (fun q => q = gd) wr W' -> K (a.put o.dst (.int .i64 (k : Int))) W') : o.wp Tryz.prog a wr K Q := by
 have hl : (wrv src).length = k * 2 := by rw [zCO, hkl]
 have hrun := zDB wr 63 63 o.type 112 2 gd (no * 2) dLen dCap ad sLen sCap (wrv D).toArray 112 (wrv src) k Tryz.underlying63 zNk hB hk hl hsrc (by rw [hl]; simp [zCO]; omega) (zKP src)
 have e : ((wrv D).toArray.toList.take (no * 2) ++ wrv src ++ (wrv D).toArray.toList.drop (no * 2 + (wrv src).length)) = wrv (D.take no ++ src ++ D.drop (no + k)) := by
  rw [hl, show no * 2 + k * 2 = (no + k) * 2 by omega]
  simp only [zIm, zIQ, zHK]
 rw [e] at hrun
 have hW := h _ (setRow_heap wr gd (wrv D).toArray _ 112 (0, 0) hB) (zCT wr gd _)
 unfold Oper.wp
 simp only [execOp, hop]
 simp only [resolve, invoke, builtin, Sem.run_bind, Sem.run_pure, Result.andThen_ok, List.map_toArray, List.map_cons, List.map_nil, hd, hs, hrun]
 exact hW
theorem zDq {ops : Array Oper} {rest : List Oper} {o : Oper} {a : Act} {Q : Exit -> Act -> World -> Prop} (hgd : o.guard = none) (d x : Operand) (hop : o.op = .call { callee := .builtin .copy, args := #[d, x], argTypes := #[63, 63] })
  {wr : World} {gd no : Nat} {D src : List Wr1} (hB : Blk wr gd (wrv D).toArray 112) (k : Nat) (hkl : k = src.length) (hfit : no + k <= D.length) (dLen dCap sLen sCap : Nat) (ad : Addr) (hd : a.eval d = .slice (some ⟨gd, no * 2, none⟩) dLen dCap) (hs : a.eval x = .slice (some ad) sLen sCap) (hk : k = Nat.min sLen dLen)
  (hsrc : ∀ j v, (wrv src)[j]? = some v -> wr.cell? (ad.add j) = some v) (h : ∀ W', Blk W' gd (wrv (D.take no ++ src ++ D.drop (no + k))).toArray 112 -> Only (fun q => q = gd) wr W' -> wpList Tryz.prog ops Q rest (a.put o.dst (.int .i64 (k : Int))) W') : wpList Tryz.prog ops Q (o :: rest) a wr :=
 wpList_plain hgd fun _ hK => zGB d x hop hB k hkl hfit dLen dCap sLen sCap ad hd hs hk hsrc fun W' h1 h2 => hK _ _ (h W' h1 h2)
theorem zFF {ops : Array Oper} {rest : List Oper} {o : Oper} {a : Act} {Q : Exit -> Act -> World -> Prop} (hgd : o.guard = none) (d x : Operand) (hop : o.op = .call { callee := .builtin .copy, args := #[d, x], argTypes := #[63, 63] })
  {wr : World} (gd no dLen dCap sCap : Nat) (p : Option Addr) (hd : a.eval d = .slice (some ⟨gd, no, none⟩) dLen dCap) (hs : a.eval x = .slice p 0 sCap) (h : wpList Tryz.prog ops Q rest (a.put o.dst (.int .i64 0)) wr) : wpList Tryz.prog ops Q (o :: rest) a wr :=
 wpList_plain hgd fun K hK => by
  have hrun := zFN wr 63 63 o.type 112 2 gd no dLen dCap p sCap Tryz.underlying63 zNk
  have hW := hK _ _ h
  unfold Oper.wp
  simp only [execOp, hop]
  simp only [resolve, invoke, builtin, Sem.run_bind, Sem.run_pure, Result.andThen_ok, List.map_toArray, List.map_cons, List.map_nil, hd, hs, hrun]
  exact hW
theorem zNN {w : World} {g o : Nat} {l : List Wr1} (h : Wls w (some ⟨g, o, none⟩) l) (m : Nat) : ∀ j v, (wrv (l.take m))[j]? = some v -> w.cell? (Addr.add ⟨g, o, none⟩ j) = some v := fun j v hv => by
 have hj := (List.getElem?_eq_some_iff.1 hv).1
 rw [zCO, List.length_take] at hj
 have hq : j / 2 < (l.take m).length := by rw [List.length_take]; omega
 have hql : j / 2 < l.length := by omega
 obtain ⟨g', o', e, _, h0, h1⟩ := h (j / 2) hql
 cases e
 obtain ⟨a1, a2⟩ := zDX (l.take m) (j / 2) hq
 have eg : (l.take m).getD (j / 2) wr0 = l.getD (j / 2) wr0 := by
  rw [List.getD_eq_getElem?_getD, List.getD_eq_getElem?_getD, List.getElem?_take, if_pos (by rw [List.length_take] at hq; omega)]
 rw [eg] at a1 a2
 rw [Addr.add_mid]
 by_cases hm : j % 2 = 0
 ·rw [show j / 2 * 2 = j by omega] at a1 h0
  rw [h0, <- a1, hv]
 ·rw [show j / 2 * 2 + 1 = j by omega] at a2
  rw [show o + j / 2 * 2 + 1 = o + j by omega] at h1
  rw [h1, <- a2, hv]
theorem zL9 (w : World) : Calls Tryz.prog 87 #[.string ⟨#[0]⟩, .int .i64 256] w fun e w' => e = .returned (.string zero256) /\ Below w.heap.size w w' := by
 have h := Tryz.strings_Repeat ⟨#[0]⟩ 256 w (by omega) (by show 1 * 256 <= _; omega)
 rw [zGL] at h
 exact h
def zCJ (x : Wr1) (n m : Nat) : List Wr1 := List.replicate n x ++ List.replicate (m - n) wr0
theorem zEr (x : Wr1) (n m : Nat) (h : n <= m) : (zCJ x n m).length = m := by simp [zCJ]; omega
theorem zFi (x : Wr1) (n k m : Nat) : (zCJ x n m).take n ++ List.replicate k x ++ (zCJ x n m).drop (n + k) = zCJ x (n + k) m := by
 have e1 : (zCJ x n m).take n = List.replicate n x := by simp [zCJ]
 have e2 : (zCJ x n m).drop (n + k) = List.replicate (m - (n + k)) wr0 := by
  simp only [zCJ]
  rw [List.drop_append, List.drop_of_length_le (by simp), List.nil_append, List.drop_replicate]
  congr 1
  simp
  omega
 rw [e1, e2, zCJ, List.replicate_append_replicate]
def RqI (w : World) (x : Wr1) (n m : Nat) (wr : World) : Prop := Blk wr w.heap.size (wrv (zCJ x n m)).toArray 112 /\ Below w.heap.size w wr
theorem zLL {w : World} {g o : Nat} {x : Wr1} {k : Nat} (h : ∀ j, j < k -> w.cell? ⟨g, o + j * 2, none⟩ = some (.int .i64 x.1) /\ w.cell? ⟨g, o + j * 2 + 1, none⟩ = some (.string x.2)) : ∀ j v, (wrv (List.replicate k x))[j]? = some v -> w.cell? (Addr.add ⟨g, o, none⟩ j) = some v := fun j v hv => by
 have hj := (List.getElem?_eq_some_iff.1 hv).1
 rw [zCO, List.length_replicate] at hj
 have hq : j / 2 < (List.replicate k x).length := by rw [List.length_replicate]; omega
 obtain ⟨a1, a2⟩ := zDX _ (j / 2) hq
 have eg : (List.replicate k x).getD (j / 2) wr0 = x := by
  rw [List.getD_eq_getElem?_getD, List.getElem?_replicate, if_pos (by omega)]
  rfl
 rw [eg] at a1 a2
 obtain ⟨h0, h1⟩ := h (j / 2) (by omega)
 rw [Addr.add_mid]
 by_cases hm : j % 2 = 0
 ·rw [show j / 2 * 2 = j by omega] at a1 h0
  rw [h0, <- a1, hv]
 ·rw [show j / 2 * 2 + 1 = j by omega] at a2
  rw [show o + j / 2 * 2 + 1 = o + j by omega] at h1
  rw [h1, <- a2, hv]
theorem zH0 (x : Wr1) (m : Nat) (h1 : 1 <= m) (h2 : m <= 1024) (w : World) (g0 : Nat) (hg0 : g0 < w.heap.size) (hc0 : w.cell? ⟨g0, 0, none⟩ = some (.int .i64 x.1)) (hc1 : w.cell? ⟨g0, 1, none⟩ = some (.string x.2)) (mi : Int) (hmi : mi = (m : Int)) :
  Calls Tryz.prog 185 #[.slice (some ⟨g0, 0, none⟩) 1 1, .int .i64 mi] w fun e w' => e = .returned (.slice (some ⟨w.heap.size, 0, none⟩) m m) /\ Blk w' w.heap.size (wrv (List.replicate m x)).toArray 112 /\ Below w.heap.size w w' := by
 subst hmi
 have hmk := zDW m (by omega) w
 have X0 := uB (show RqI w x 0 m (w.alloc (.cells (wrv (List.replicate m wr0)).toArray 112)) from ⟨by simpa [zCJ] using Blk.new w 112 (wrv (List.replicate m wr0)).toArray, (Below.refl _ _).alloc (Nat.le_refl _) _⟩)
 generalize hx2 : w.alloc (.cells (wrv (List.replicate m wr0)).toArray 112) = x2 at *
 clear hx2
 have HC := uB (And.intro hc0 hc1)
 have HM := uB hmk
 clear hc0 hc1 hmk
 go_enter Tryz.func185, Tryz.ntmps185
 go_wp2_with fail
 refine (Tryz.bits_Mul 1 m (by omega) (by omega) w).mono ?_
 rintro ev x1 ⟨rfl, rfl⟩
 rw [show (1 * m / 18446744073709551616 : Nat) = 0 by omega, show (1 * m % 18446744073709551616 : Nat) = m by omega]
 have hmk := uA HM
 have wv : IntKind.i64.wrap (m : Int) = (m : Int) := zAB _ (by omega) (by omega)
 have HX := uB (show ∀ j, j < 1 -> x2.cell? ⟨g0, 0 + j * 2, none⟩ = some (.int .i64 x.1) /\ x2.cell? ⟨g0, 0 + j * 2 + 1, none⟩ = some (.string x.2) from fun j hj => by
  have hj0 : j = 0 := by omega
  subst hj0
  exact ⟨by rw [(uA X0).2.cell (p := ⟨g0, 0 + 0 * 2, none⟩) hg0]; exact (uA HC).1, by rw [(uA X0).2.cell (p := ⟨g0, 0 + 0 * 2 + 1, none⟩) hg0]; exact (uA HC).2⟩)
 go_wp2_with (refine zDq rfl (.tmp 31) (.tmp 32) rfl (no := 0) (src := List.replicate 1 x) (uA X0).1 1 rfl (by rw [zEr _ _ _ (by omega)]; omega) m m 1 1 ⟨g0, 0, none⟩ rfl rfl (by show 1 = min 1 m; omega) (zLL (uA HX)) ?_; intro W1 hI1 hO1; have X1 := uB (show RqI x1 x 1 m W1 from ⟨by have := zFi x 0 1 m; simp only [Nat.zero_add] at this hI1; rw [this] at hI1; exact hI1, (uA X0).2.trans (hO1.below (uA X0).2.size (fun k hk q => by have q : k = x1.heap.size := q; omega))⟩); clear hI1 hO1)
 clear X0 HX HC HM hmk
 go_loopw [8] (fun i wr => ∃ n : Nat, 1 <= n /\ n <= m /\ i = .int .i64 (n : Int) /\ RqI x1 x n m wr) (fun i _ => m - (intOf i).toNat)
 case atStart => exact ⟨1, by omega, by omega, rfl, uA X1⟩
 case round =>
  obtain ⟨n, hn1, hn, rfl, hI⟩ := hrel
  have XI := uB hI
  clear hI X1
  by_cases hnm : n < m
  ·obtain ⟨k, hk⟩ : ∃ k, k = Nat.min n (m - n) := ⟨_, rfl⟩
   have hk1 : 1 <= k := by rw [hk]; simp only [Nat.min_def]; split <;> omega
   have hk2 : k <= n := by rw [hk]; exact Nat.min_le_left _ _
   have hk3 : n + k <= m := by
    have : k <= m - n := by rw [hk]; exact Nat.min_le_right _ _
    omega
   have HK := uB hk
   clear hk
   have i0 : 0 <= (n : Int) := by omega
   have i1 : (n : Int) <= (m : Int) := by omega
   have i2 : ¬ m = n := by omega
   have hw1 : IntKind.i64.wrap ((n : Int) + (k : Int)) = (n : Int) + (k : Int) := zAB _ (by omega) (by omega)
   go_wp2_with fail
   refine wp_region_held_drew (S := fun _ => True) (by kernel_rfl) trivial ?_
   intro hS
   refine yL 0 (some 38) (.int .i64 (n : Int)) rfl (fun w hSw => by go_simp) hS ?_
   refine yL 1 (some 39) (.slice (some ⟨x1.heap.size, 0, none⟩) m m) rfl (fun w hSw => by go_simp) hS ?_
   refine yL 2 (some 40) (.int .i64 (n : Int)) rfl (fun w hSw => by go_simp) hS ?_
   refine yL 3 (some 41) (.slice (some ⟨x1.heap.size, n * 2, none⟩) (m - n) (m - n)) rfl (fun w hSw => by go_simp) hS ?_
   refine yL 4 (some 42) (.slice (some ⟨x1.heap.size, 0, none⟩) m m) rfl (fun w hSw => by go_simp) hS ?_
   refine yL 5 (some 43) (.int .i64 (n : Int)) rfl (fun w hSw => by go_simp) hS ?_
   refine yL 6 (some 44) (.slice (some ⟨x1.heap.size, 0, none⟩) n m) rfl (fun w hSw => by go_simp) hS ?_
   refine wpAnyH_ready (rs := [7]) (by kernel_rfl) (by simp) ?_
   refine AllReadyH.cons rfl (fun K hK => ?_) AllReadyH.nil
   simp only [List.getElem_toArray, List.getElem_cons_succ, List.getElem_cons_zero]
   refine zGB (.tmp 41) (.tmp 44) rfl (no := n) (src := List.replicate k x) (show Blk wr.drew x1.heap.size (wrv (zCJ x n m)).toArray 112 from (uA XI).1) k (by simp) (by rw [zEr _ _ _ hn]; exact hk3) (m - n) (m - n) n m ⟨x1.heap.size, 0, none⟩ rfl rfl (uA HK) (zLL (fun j hj => by
    obtain ⟨a1, a2⟩ := zBS (uA XI).1 j (by rw [zEr _ _ _ hn]; omega) |>.elim fun g h => h.elim fun o h => by
     obtain ⟨e, _, h0, h1⟩ := h
     cases e
     exact And.intro h0 h1
    have eg : (zCJ x n m).getD j wr0 = x := by
     rw [zCJ, List.getD_eq_getElem?_getD, List.getElem?_append_left (by simp; omega), List.getElem?_replicate, if_pos (by omega)]
     rfl
    rw [eg] at a1 a2
    exact ⟨a1, a2⟩)) ?_
   intro W2 hI2 hO2
   have X2 := uB (show RqI x1 x (n + k) m W2 from ⟨by rw [zFi] at hI2; exact hI2, (uA XI).2.drew.trans (hO2.below (uA XI).2.size (fun k hk q => by have q : k = x1.heap.size := q; omega))⟩)
   clear hI2 hO2
   refine hK.out _ _ trivial (fun hS => ?_)
   clear hK K
   simp only [Act.put, List.setIfInBounds_toArray, List.set_cons_zero, List.set_cons_succ]
   refine yL 8 (some 46) (.int .i64 ((n : Int) + (k : Int))) rfl (fun w hSw => by go_simp) hS ?_
   refine yL 9 (some 8) (.int .i64 ((n : Int) + (k : Int))) rfl (fun w hSw => by go_simp) hS ?_
   refine wpAnyH_done (by kernel_rfl) ?_ _
   clear hS
   go_wp2
   go_roundw
   case rel => exact ⟨n + k, by omega, by omega, by go_num, uA X2⟩
   case measure => simp [intOf]; omega
  ·obtain rfl : n = m := by omega
   clear hnm
   go_wp2
   go_ret
   refine ⟨rfl, ?_, (uA XI).2⟩
   have := (uA XI).1
   simpa [zCJ] using this
def zEZ : Wr1 := (18, zero256)
def zAb (l : List Wr1) : List Wr1 := l ++ List.replicate (16 - l.length) zEZ
theorem zAO (l : List Wr1) (h : l.length <= 16) : (zAb l).length = 16 := by simp [zAb]; omega
theorem zKA (l : List Wr1) (n : Nat) (hn : n = l.length) : (List.replicate 16 zEZ).take 0 ++ l ++ (List.replicate 16 zEZ).drop (0 + n) = zAb l := by
 rw [List.take_zero, List.nil_append, List.drop_replicate, Nat.zero_add, hn, zAb]
theorem wrepC (w : World) (g : Nat) (hB : Blk w g #[.int .i64 18, .string zero256] 112) : Calls Tryz.prog 185 #[.slice (some ⟨g, 0, none⟩) 1 1, .int .i64 16] w fun e w' => e = .returned (.slice (some ⟨w.heap.size, 0, none⟩) 16 16) /\ Blk w' w.heap.size (wrv (List.replicate 16 zEZ)).toArray 112 /\ Below w.heap.size w w' :=
 zH0 zEZ 16 (by decide) (by decide) w g hB.lt (hB.cell 0) (hB.cell 1) 16 rfl
theorem zGH (w : World) (p : Option Addr) (c : Nat) (l : List Wr1) (n : Nat) (hn : n = l.length) (hl : Wls w p l) (h16 : n <= 16) :
  Calls Tryz.prog 117 #[.slice p n c] w fun e w' => ∃ g, w.heap.size <= g /\ e = .returned (.slice (some ⟨g, 0, none⟩) 16 16) /\ Blk w' g (wrv (zAb l)).toArray 112 /\ Below w.heap.size w w' := by
 have hrep := zL9
 have HRP := uB (hrep w)
 have HL := uB hl
 have HN := uB hn
 have HWC := uB wrepC
 obtain ⟨z, hz⟩ : ∃ z, zero256 = z := ⟨_, rfl⟩
 rw [hz] at HRP HWC
 have HZ := uB hz
 clear hrep hl hn hz
 go_enter Tryz.func117, Tryz.ntmps117
 go_wp2_with fail
 refine (uA HRP).mono ?_
 rintro e x1 ⟨rfl, hb1⟩
 obtain ⟨x2, hx2⟩ : ∃ x, x = (x1.alloc (Obj.cells #[.int .i64 18, .string z] 112)).alloc (Obj.cells #[.int .i64 18, .string z] 112) := ⟨_, rfl⟩
 have hb2 : Below w.heap.size w x2 := by rw [hx2]; exact (hb1.alloc hb1.size _).alloc (by have := hb1.size; simp; omega) _
 have hB2 : Blk x2 (x1.heap.size + 1) #[.int .i64 18, .string z] 112 := by
  rw [hx2]
  have := Blk.new (x1.alloc (Obj.cells #[.int .i64 18, .string z] 112)) 112 #[.int .i64 18, .string z]
  simpa using this
 have HB2 := uB (And.intro hb2 hB2)
 clear hb1 hb2 hB2
 go_wp2_with fail
 rw [<- hx2]
 replace hx2 := uB hx2
 refine (uA HWC _ _ (uA HB2).2).mono ?_
 rintro e x3 ⟨rfl, hB3, hb3⟩
 have hge : w.heap.size <= x2.heap.size := (uA HB2).1.size
 have hb3' : Below w.heap.size w x3 := (uA HB2).1.trans (hb3.mono hge)
 have HB3 := uB (And.intro hB3 (And.intro hb3' hge))
 have HL3 := uB ((uA HL).below hb3')
 obtain ⟨g, hg⟩ : ∃ g, x2.heap.size = g := ⟨_, rfl⟩
 rw [hg] at HB3 ⊢
 clear hB3 hb3 hb3' hg hge HB2
 obtain ⟨D, hD⟩ : ∃ D, List.replicate 16 zEZ = D := ⟨_, rfl⟩
 rw [hD] at HB3
 have hDl : D.length = 16 := by rw [<- hD, List.length_replicate]
 have HD := uB hD
 clear hD
 by_cases h0 : n = 0
 ·subst h0
  have hfl : zAb l = D := by
   have : l = [] := List.eq_nil_of_length_eq_zero (uA HN).symm
   rw [this, <- uA HD]
   rfl
  have HF := uB hfl
  clear hfl
  go_wp2_with (refine zFF rfl (.tmp 10) (.tmp 11) rfl g 0 16 16 c p rfl rfl ?_)
  go_ret
  exact ⟨g, (uA HB3).2.2, rfl, by rw [uA HF]; exact (uA HB3).1, (uA HB3).2.1⟩
 ·obtain ⟨gb, o, rfl⟩ : ∃ gb o, p = some ⟨gb, o, none⟩ := by
   obtain ⟨gb, o, e, _⟩ := uA HL3 0 (by rw [<- uA HN]; omega)
   exact ⟨gb, o, e⟩
  have HSR := uB (zNN (uA HL3) l.length)
  rw [List.take_length] at HSR
  go_wp2_with (refine zDq rfl (.tmp 10) (.tmp 11) rfl (no := 0) (src := l) (uA HB3).1 n (uA HN) (by omega) 16 16 n c ⟨gb, o, none⟩ rfl rfl (by show n = min n 16; omega) (uA HSR) ?_; intro W1 hI1 hO1; have X1 := uB (show Blk W1 g (wrv (zAb l)).toArray 112 /\ Below w.heap.size w W1 from ⟨by rw [<- uA HD] at hI1; have e := zKA l n (uA HN); rw [e] at hI1; exact hI1, (uA HB3).2.1.trans (hO1.below (uA HB3).2.1.size (fun k hk q => by have q : k = g := q; have := (uA HB3).2.2; omega))⟩); clear hI1 hO1)
  go_ret
  exact ⟨g, (uA HB3).2.2, rfl, (uA X1).1, (uA X1).2⟩
end
end Go.Proofs.YtdpnbemagiekoaaGreatDoor
