import Derived.Test.YtdpnbemagiekoaaGreatDoorMe07
import Derived.BigQuiet
import Derived.WalkMore
import Derived.Shelf.Spec.SlicesInsertGrow
import Derived.Shelf.SlicesE.DeleteFunc
import Derived.Shelf.SlIterI.Sorted
import Derived.Shelf.SlIterI.Keys
set_option maxHeartbeats 2000000
set_option maxRecDepth 100000
namespace Go.Proofs.YtdpnbemagiekoaaGreatDoor
section
open Go.RowKit
def Strs (w : World) (p : Option Addr) (l : List ByteArray) : Prop := ∀ j, j < l.length -> ∃ g o, p = some ⟨g, o, none⟩ /\ g < w.heap.size /\ w.cell? ⟨g, o + j, none⟩ = some (.string (l.getD j ByteArray.empty))
def zDD (l : List ByteArray) (w : World) (e : Ending) (w' : World) : Prop :=
  if 128 <= l.length /\ l.length <= 1024 then
    (if ∀ t ∈ l, t.size = 256 then ∃ b v, e = .returned (.tuple #[.pointer (some ⟨b, 0, none⟩), .int .i64 0]) /\ Dk w' w.heap.size b v (zCK l) /\ Below w.heap.size w w'
     else e = .returned (.tuple #[.pointer none, .int .i64 42]) /\ Below w.heap.size w w')
  else e = .returned (.tuple #[.pointer none, .int .i64 40]) /\ w' = w
def zD8 (l : List ByteArray) (k : Nat) : List ByteArray := l.take k ++ List.replicate (l.length - k) ⟨#[]⟩
theorem zLM (l : List ByteArray) (k : Nat) (h : k <= l.length) : (zD8 l k).length = l.length := by simp [zD8]; omega
theorem zJg (l : List ByteArray) (k : Nat) (h : k < l.length) : (zD8 l k).set k (l.getD k ByteArray.empty) = zD8 l (k + 1) := by
 have e1 : l.take (k + 1) = l.take k ++ [l.getD k ByteArray.empty] := by
  rw [List.take_succ_eq_append_getElem h]
  simp [List.getD_eq_getElem?_getD, h]
 have e2 : List.replicate (l.length - k) (⟨#[]⟩ : ByteArray) = ⟨#[]⟩ :: List.replicate (l.length - (k + 1)) ⟨#[]⟩ := by
  rw [show l.length - k = (l.length - (k + 1)) + 1 by omega, List.replicate_succ]
 rw [zD8, zD8, e1, e2, List.set_append]
 have hl : (l.take k).length = k := by simp; omega
 simp [hl]
def LdI (w : World) (l : List ByteArray) (k : Nat) (wr : World) : Prop := Blk wr w.heap.size (strs (zD8 l k)).toArray 9 /\ Below w.heap.size w wr /\ ∀ t ∈ l.take k, t.size = 256
theorem LdI.step {w wr x : World} {l : List ByteArray} {k : Nat} (h : LdI w l k wr) (hk : k < l.length) (hb : Below wr.heap.size wr x) (ht : (l.getD k ByteArray.empty).size = 256) : LdI w l (k + 1) (x.setCell ⟨w.heap.size, k, none⟩ (.string (l.getD k ByteArray.empty))) := by
 refine ⟨?_, (h.2.1.trans (hb.mono h.2.1.size)).setCell (Nat.le_refl _) _, fun t hm => ?_⟩
 ·have := (h.1.below hb h.1.lt).set k (.string (l.getD k ByteArray.empty))
  have e : (strs (zD8 l k)).toArray.setIfInBounds k (.string (l.getD k ByteArray.empty)) = (strs (zD8 l (k + 1))).toArray := by
   rw [<- zJg l k hk, <- zFE]
   simp
  rw [e] at this
  exact this
 ·rw [List.take_succ_eq_append_getElem hk] at hm
  rcases List.mem_append.1 hm with hm | hm
  ·exact h.2.2 t hm
  ·simp at hm
   subst hm
   simpa [List.getD_eq_getElem?_getD, hk] using ht
theorem zMi (p : Option Addr) (c : Nat) (l : List ByteArray) (w : World) (h : Strs w p l) : Calls Tryz.prog 33 #[.slice p l.length c] w (zDD l w) := by
 have H := uB h
 clear h
 by_cases hn : 128 <= l.length /\ l.length <= 1024
 ·have e : decide (128 <= (l.length : Int) /\ (l.length : Int) <= 1024) = true := by simp; omega
  have hm1 := hn.1
  have hm2 := hn.2
  have HN := uB hn
  clear hn
  go_enter Tryz.func33, Tryz.ntmps33
  go_wp2_with fail
  refine (zCE _ _).mono ?_
  rintro ev x1 ⟨rfl, rfl⟩
  rw [e]
  clear e
  have hmk := zFq l.length (by omega) x1
  have X0 := uB (show LdI x1 l 0 (x1.alloc (.cells (strs (List.replicate l.length ⟨#[]⟩)).toArray 9)) from ⟨by simpa [zD8] using Blk.new x1 9 (strs (List.replicate l.length ⟨#[]⟩)).toArray, (Below.refl _ _).alloc (Nat.le_refl _) _, fun t ht => by simp at ht⟩)
  generalize hx2 : x1.alloc (.cells (strs (List.replicate l.length ⟨#[]⟩)).toArray 9) = x2 at *
  clear hx2
  go_wp2
  clear hmk
  go_loopw [16] (fun i wr => ∃ k : Nat, k <= l.length /\ i = .int .i64 (k : Int) /\ LdI x1 l k wr) (fun i _ => l.length - (intOf i).toNat)
  case atStart => exact ⟨0, by omega, rfl, uA X0⟩
  case round =>
   obtain ⟨k, hk, rfl, hI⟩ := hrel
   obtain ⟨wo, rfl⟩ : ∃ wo, wo = wr := ⟨_, rfl⟩
   have XI := uB hI
   clear hI X0
   by_cases hkl : k < l.length
   ·obtain ⟨g, o, rfl, hg, hc⟩ := uA H k hkl
    have ck : wo.cell? ⟨g, o + k, none⟩ = some (.string (l.getD k ByteArray.empty)) := by rw [(uA XI).2.1.cell (p := ⟨g, o + k, none⟩) hg]; exact hc
    have HM := uB (show l.getD k ByteArray.empty ∈ l by simp [List.getD_eq_getElem?_getD, hkl])
    have HST := uB (fun x (hb : Below wo.heap.size wo x) (ht : (l.getD k ByteArray.empty).size = 256) => (uA XI).step hkl hb ht)
    have HB := uB (uA XI).2.1
    have hbk := (uA XI).1
    have hpl := zLM l k hk
    have hold : ∃ ov, (strs (zD8 l k))[k]? = some ov := ⟨_, zCX _ _ (by omega)⟩
    obtain ⟨ov, hov⟩ := hold
    have HK := uB hbk
    clear hc hbk XI
    generalize l.getD k ByteArray.empty = t at *
    by_cases ht : t.size = 256
    ·have e2 : decide (t.size = 256) = true := by simpa using ht
     have HT := uB ht
     clear ht
     go_wp2_with fail
     refine (zBy t _).mono ?_
     rintro ev x2 ⟨rfl, rfl⟩
     rw [e2]
     clear e2
     go_wp2_with fail
     refine (zJ5 t _ (by rw [uA HT]; decide)).mono ?_
     rintro ev x3 ⟨rfl, hb3⟩
     have hk3 := (uA HK).below hb3 (uA HK).lt
     have cx : x3.cell? ⟨x1.heap.size, k, none⟩ = some ov := by rw [hk3.cell k]; simpa using hov
     have fx := hk3.frozen k
     have HR := uB (uA HST x3 hb3 (uA HT))
     clear hb3 hk3 hov ck
     go_wp2
     go_roundw
     case rel => exact ⟨k + 1, by omega, by go_num, uA HR⟩
     case measure => simp [intOf]; omega
    ·have e2 : decide (t.size = 256) = false := by simpa using ht
     have HE := uB (show ¬ ∀ t ∈ l, t.size = 256 from fun h => ht (h t (uA HM)))
     clear ht hov
     go_wp2_with fail
     refine (zBy t _).mono ?_
     rintro ev x2 ⟨rfl, rfl⟩
     rw [e2]
     clear e2
     go_wp2
     go_ret2
     rw [zDD, if_pos (uA HN), if_neg (uA HE)]
     exact ⟨rfl, uA HB⟩
   ·have hk' : k = l.length := by omega
    subst hk'
    have hall : ∀ t ∈ l, t.size = 256 := by have := (uA XI).2.2; rwa [List.take_length] at this
    have HA := uB hall
    have hk3 : Blk wo x1.heap.size (strs l).toArray 9 := by have := (uA XI).1; simpa [zD8] using this
    have HK3 := uB hk3
    have HB3 := uB (uA XI).2.1
    have hs3 := (uA XI).2.1.size
    clear hall hk3 XI hkl hk
    go_wp2_with fail
    refine (zEG _ _ l (uA HK3) (by omega) hm2).mono ?_
    rintro ev x4 ⟨g1, cap1, rfl, hr4, hb4⟩
    have hk4 := (uA HK3).below hb4 (uA HK3).lt
    have D := uB (show Dk (x4.alloc (Obj.cells #[.slice (some ⟨x1.heap.size, 0, none⟩) l.length l.length, .slice (some ⟨g1, 0, none⟩) l.length cap1, .slice none 0 0, .slice none 0 0, .int .i64 0, .bool false] 68)) x1.heap.size x4.heap.size ⟨.slice (some ⟨x1.heap.size, 0, none⟩) l.length l.length, .slice (some ⟨g1, 0, none⟩) l.length cap1, .slice none 0 0, .slice none 0 0⟩ (zCK l) from by
     have hg1 := (hr4.lt g1 rfl).1
     have hlt := (uA HK3).lt
     refine ⟨Blk.new _ _ _, (zHo x4 x1.heap.size _ l hk4 (by omega) (by omega)).alloc _, (zCj hr4 (by omega)).alloc _, World.ownsRow_nil _ _ _ _, World.ownsRow_nil _ _ _ _, fun k hk1 hk2 => ?_, ?_⟩
     ·simp [Value.ownBlock] at hk1 hk2
      omega
     ·have := hb4.size
      omega)
    have HB4 := uB ((uA HB3).trans (hb4.mono (uA HB3).size))
    clear hr4 hb4 hk4 HK3 HB3
    go_wp2
    go_ret2
    rw [zDD, if_pos (uA HN), if_pos (uA HA)]
    exact ⟨_, _, rfl, uA D, (uA HB4).alloc (uA HB4).size _⟩
 ·have e : decide (128 <= (l.length : Int) /\ (l.length : Int) <= 1024) = false := by simp; omega
  have HN := uB hn
  clear hn
  go_enter Tryz.func33, Tryz.ntmps33
  go_wp2_with fail
  refine (zCE _ _).mono ?_
  rintro ev x1 ⟨rfl, rfl⟩
  rw [e]
  clear e
  go_wp2
  go_ret2
  rw [zDD, if_neg (uA HN)]
  exact ⟨rfl, rfl⟩
end
section
open Go.RowKit
end
section
open Go.RowKit
def zC3 (c : Int) (n : Nat) : Nat := ((if c < 0 then -(c + 1) else c) % (n : Int)).toNat
theorem zEn (c : Int) (n : Nat) (hn : 0 < n) : zC3 c n < n := by
 have h1 := Int.emod_nonneg (if c < 0 then -(c + 1) else c) (show (n : Int) ≠ 0 by omega)
 have h2 := Int.emod_lt_of_pos (if c < 0 then -(c + 1) else c) (show 0 < (n : Int) by omega)
 unfold zC3
 omega
end
section
open Go.RowKit
end
section
open Go.RowKit
theorem Dk.fd {w : World} {base b : Nat} {v : DV} {s : DSt} (h : Dk w base b v s) (k : Nat) (hk : Fd b v k) : base <= k /\ k < w.heap.size := by
 rcases hk with rfl | hk | hk | hk | hk
 ·exact ⟨h.lo, h.blk.lt⟩
 ·exact h.rl.lt k hk
 ·exact h.rn.lt k hk
 ·exact h.rp.lt k hk
 ·exact h.ra.lt k hk
theorem Sane.write {s : DSt} (h : Sane s) (i : Int) (t : ByteArray) : Sane (zAP s i t) := by
 unfold zAP
 split
 ·rename_i hi
  split
  ·split
   ·exact h.dies
   ·have hj : i.toNat < s.last.length := by have := hi.1; have := hi.2; omega
    refine ⟨?_, ?_, ?_, ?_, ?_, ?_⟩
    ·show 0 < (zAF s).last.length; rw [zA2]; exact h.pos
    ·show (zAF s).last.length <= 1024; rw [zA2]; exact h.cap
    ·show (s.now.set i.toNat t).length = (zAF s).last.length; rw [zA2, List.length_set]; exact h.same
    ·intro p hp
     show p.1 < (zAF s).last.length
     rw [zA2]
     rcases List.mem_append.1 hp with hp | hp
     ·exact h.pend p hp
     ·simp at hp; subst hp; exact hj
    ·exact (zDG s h.fuse)
    ·intro p hp
     rcases List.mem_append.1 hp with hp | hp
     ·exact h.acts p hp
     ·simp at hp; subst hp; have := h.cap; show i.toNat < 1024; omega
  ·exact h
 ·exact h
theorem Sane.flush {s : DSt} (h : Sane s) : Sane (zBw s) := by
 unfold zBw
 split
 ·exact h.dies
 ·refine ⟨?_, ?_, ?_, ?_, zDG s h.fuse, ?_⟩
  ·show 0 < (layP s.last s.pend).length; rw [zAp]; exact h.pos
  ·show (layP s.last s.pend).length <= 1024; rw [zAp]; exact h.cap
  ·show (zAF s).now.length = (layP s.last s.pend).length; rw [zAp, zCh]; exact h.same
  ·intro p hp; cases hp
  ·intro p hp
   rcases List.mem_append.1 hp with hp | hp
   ·exact h.acts p hp
   ·simp at hp; subst hp; decide
theorem Sane.arm {s : DSt} (h : Sane s) (n : Int) (hn : n <= 9223372036854775807) : Sane (armS s n) := by
 unfold armS
 split
 ·exact h
 ·split
  ·exact h
  ·exact ⟨h.pos, h.cap, h.same, h.pend, ⟨by show 0 <= n; omega, hn⟩, h.acts⟩
theorem Sane.crash {s : DSt} (h : Sane s) (l : List Int) : Sane (zDv s l) := by
 unfold zDv
 split
 ·refine ⟨?_, ?_, rfl, ?_, ?_, h.acts⟩
  ·show 0 < (layP s.last _).length; rw [zAp]; exact h.pos
  ·show (layP s.last _).length <= 1024; rw [zAp]; exact h.cap
  ·intro p hp; cases hp
  ·exact ⟨show (0 : Int) <= 0 by decide, show (0 : Int) <= 9223372036854775807 by decide⟩
 ·exact h
theorem Sane.fresh (l : List ByteArray) (h1 : 0 < l.length) (h2 : l.length <= 1024) : Sane (zCK l) :=
 ⟨h1, h2, rfl, fun p hp => (by cases hp), ⟨show (0 : Int) <= 0 by decide, show (0 : Int) <= 9223372036854775807 by decide⟩, fun p hp => (by cases hp)⟩
def DI (w0 w : World) (b : Nat) (s : DSt) : Prop := ∃ v, Dk w w0.heap.size b v s /\ Below w0.heap.size w0 w /\ Sane s
theorem DI.bel {w0 w : World} {b : Nat} {s : DSt} (h : DI w0 w b s) : Below w0.heap.size w0 w := by
 obtain ⟨v, h1, h2, h3⟩ := h
 exact h2
theorem DI.only {w0 w w' : World} {b : Nat} {v : DV} {s : DSt} (h1 : Dk w w0.heap.size b v s) (h2 : Below w0.heap.size w0 w) (ho : Only (Fd b v) w w') : Below w0.heap.size w0 w' :=
 h2.trans (ho.below h2.size (fun k hk q => by have := (h1.fd k q).1; omega))
theorem zO3 {w0 w : World} {b : Nat} {s : DSt} (h : DI w0 w b s) (hp : s.pend.length <= 1000000000) (ha : s.acts.length <= 1000000000) :
  Calls Tryz.prog 41 #[.pointer (some ⟨b, 0, none⟩)] w fun e w' => e = .returned (.int .i64 (zCp s)) /\ DI w0 w' b (zBw s) := by
 obtain ⟨v, h1, h2, h3⟩ := h
 refine (zGS w _ b v s h1 h2.size h3 hp ha).mono ?_
 rintro ev w' ⟨rfl, v', g1, g2, _⟩
 exact ⟨rfl, v', g1, DI.only h1 h2 g2, h3.flush⟩
theorem zL3 {w0 w : World} {b : Nat} {s : DSt} (h : DI w0 w b s) :
  Calls Tryz.prog 31 #[.pointer (some ⟨b, 0, none⟩)] w fun e w' => e = .returned (.int .i64 (s.pend.length : Int)) /\ w' = w := by
 obtain ⟨v, h1, h2, h3⟩ := h
 exact zEp w _ b v s h1
def Alive (s : DSt) : Prop := s.fuse = 0 /\ s.dead = false
theorem Alive.dies {s : DSt} (h : Alive s) : zAF s = s := by rw [zAF, if_neg (by rw [h.1]; decide)]
theorem zNl {s : DSt} (h : Alive s) (j : Nat) (hj : j < s.last.length) (t : ByteArray) (ht : t.size = 256) : zBk s (j : Int) t = 0 /\ zAP s (j : Int) t = { s with now := s.now.set j t, pend := s.pend ++ [(j, t)], acts := s.acts ++ [(0, j)] } := by
 have hi : isOk s (j : Int) := ⟨by omega, by omega⟩
 have hd : ¬ (zAF s).dead = true := by rw [h.dies, h.2]; decide
 rw [zBk, zAP, if_pos hi, if_pos hi, if_pos ht, if_pos ht, if_neg hd, if_neg hd, h.dies, Int.toNat_natCast]
 exact ⟨rfl, rfl⟩
theorem zNj {s : DSt} (h : Alive s) : zCp s = 0 /\ zBw s = { s with last := layP s.last s.pend, pend := [], acts := s.acts ++ [(1, 0)] } := by
 have hd : ¬ (zAF s).dead = true := by rw [h.dies, h.2]; decide
 rw [zCp, zBw, if_neg hd, if_neg hd, h.dies]
 exact ⟨rfl, rfl⟩
theorem readA {s : DSt} (h : Alive s) (j : Nat) (hj : j < s.last.length) : zBc s (j : Int) = 0 /\ zBb s (j : Int) = s.now.getD j ByteArray.empty := by
 have hi : isOk s (j : Int) := ⟨by omega, by omega⟩
 have hd : ¬ s.dead = true := by rw [h.2]; decide
 rw [zBc, zBb, if_pos hi, if_pos hi, if_neg hd, if_neg hd, Int.toNat_natCast]
 exact ⟨rfl, rfl⟩
end
section
open Go.RowKit
theorem zD1 : zero256.size = 256 := by
 show (List.replicate 256 (0 : UInt8)).toArray.size = 256
 rw [List.size_toArray, List.length_replicate]
theorem zOR (w : World) : Calls Tryz.prog 36 #[.int .i64 128] w fun e w' => ∃ b, e = .returned (.tuple #[.pointer (some ⟨b, 0, none⟩), .int .i64 0]) /\ DI w w' b (zCK (List.replicate 128 zero256)) := by
 refine (zNZ 128 w).mono ?_
 intro e w' h
 rw [zFR, if_pos (by decide)] at h
 obtain ⟨b, v, h1, h2, h3⟩ := h
 exact ⟨b, h1, v, h2, h3, Sane.fresh _ (by rw [List.length_replicate]; decide) (by rw [List.length_replicate]; decide)⟩
theorem zAz (l : List ByteArray) (j : Nat) (t : ByteArray) (h : j < l.length) : (l.set j t).getD j ByteArray.empty = t := by simp [h]
theorem zA5 (l : List ByteArray) (j k : Nat) (t : ByteArray) (h : j ≠ k) : (l.set j t).getD k ByteArray.empty = l.getD k ByteArray.empty := by simp [h]
end
section
open Go.RowKit
def byN (b : ByteArray) (j : Nat) : Nat := ((nums b).getD j 0).toNat
theorem zKs (b : ByteArray) (j : Nat) : byN b j < 256 := by
 have := zAt b j
 unfold byN
 omega
theorem zNr (b : ByteArray) (j : Nat) : (nums b).getD j 0 = (byN b j : Int) := by
 have := zAt b j
 unfold byN
 omega
def bitB (b : ByteArray) (i : Nat) : Bool := (byN b (i % 256 / 8)).testBit (i % 8)
def zD7 (b : ByteArray) (i : Nat) : List Int := (nums b).set (i % 256 / 8) ((byN b (i % 256 / 8) ^^^ 2 ^ (i % 8) : Nat) : Int)
def zBW (b : ByteArray) (i : Nat) : ByteArray := strOfNums (zD7 b i)
theorem zKE (k : Nat) (hk : k < 8) : 2 ^ k < 256 := by
 have h : 2 ^ k < 2 ^ 8 := Nat.pow_lt_pow_right (by decide) hk
 simpa using h
theorem zPn (a k : Nat) (ha : a < 256) (hk : k < 8) : a ^^^ 2 ^ k < 256 := Nat.xor_lt_two_pow (n := 8) ha (zKE k hk)
theorem zHv (b : ByteArray) (i : Nat) : Bytes (zD7 b i) := fun j => by
 have h1 := zAt b j
 have h2 := zPn (byN b (i % 256 / 8)) (i % 8) (zKs _ _) (Nat.mod_lt _ (by decide))
 unfold zD7
 generalize byN b (i % 256 / 8) ^^^ 2 ^ (i % 8) = v at *
 rw [List.getD_eq_getElem?_getD] at h1 ⊢
 rw [List.getElem?_set]
 split
 ·split
  ·simp; omega
  ·simp
 ·exact h1
theorem zFh (b : ByteArray) (i : Nat) : nums (zBW b i) = zD7 b i := zAd _ (zHv b i)
theorem zDV (b : ByteArray) (i : Nat) : (zBW b i).size = b.size := by rw [<- zAf, zFh, zD7, List.length_set, zAf]
theorem zFO (b : ByteArray) (i : Nat) : bitB b (i % 256) = bitB b i := by
 unfold bitB
 rw [Nat.mod_mod, show i % 256 % 8 = i % 8 by omega]
theorem zKG (b : ByteArray) (k j : Nat) : bitB b (256 * k + j) = bitB b j := by
 rw [<- zFO, <- zFO b j, show (256 * k + j) % 256 = j % 256 by omega]
theorem zLN (b : ByteArray) (hb : b.size = 32) (i m : Nat) : byN (zBW b i) m = if m = i % 256 / 8 then byN b m ^^^ 2 ^ (i % 8) else byN b m := by
 unfold byN
 rw [zFh]
 unfold zD7
 rw [List.getD_eq_getElem?_getD, List.getElem?_set]
 have hl := zAf b
 by_cases h : m = i % 256 / 8
 ·subst h
  rw [if_pos rfl, if_pos rfl, if_pos (by omega)]
  simp [byN]
 ·rw [if_neg (Ne.symm h), if_neg h, List.getD_eq_getElem?_getD]
theorem zJR (b : ByteArray) (hb : b.size = 32) (i j : Nat) : bitB (zBW b i) j = if j % 256 = i % 256 then !bitB b j else bitB b j := by
 unfold bitB
 rw [zLN b hb]
 by_cases h1 : j % 256 / 8 = i % 256 / 8
 ·rw [if_pos h1, Nat.testBit_xor, Nat.testBit_two_pow]
  by_cases h2 : j % 256 = i % 256
  ·rw [if_pos h2, decide_eq_true (show i % 8 = j % 8 by omega)]
   simp
  ·rw [if_neg h2, decide_eq_false (show ¬ i % 8 = j % 8 by omega)]
   simp
 ·rw [if_neg h1, if_neg (fun e => h1 (by rw [e]))]
def pgs (n : Nat) : Nat := (n + 255) / 256
def pgT (k : Nat) (b : ByteArray) : ByteArray := zBv 3 (k : Int) b
theorem zPo (k : Nat) (hk : k < 1024) (b : ByteArray) (hb : b.size = 32) : errM 3 (k : Int) b.size = 0 := by
 have h1 : zAJ 3 1 := by decide
 have h2 : zAJ (k : Int) 4 := ⟨by omega, by
  rw [show (2 : Int) ^ (8 * 4) = 4294967296 by decide]
  omega⟩
 rw [errM, if_neg (by simp [h1, h2]), if_neg (by omega)]
theorem zGZ (k : Nat) (hk : k < 1024) (b : ByteArray) (hb : b.size = 32) : prOk (pgT k b) /\ pkd (pgT k b) = 3 /\ pnm (pgT k b) = (k : Int) /\ pbd (pgT k b) = b := zCx 3 (k : Int) b (zPo k hk b hb)
theorem zEl (k : Nat) (hk : k < 1024) (b : ByteArray) (hb : b.size = 32) : (pgT k b).size = 256 := (zGO _ (zGZ k hk b hb).1).1
def Pg (n : Nat) (T : Nat -> Bool) (k : Nat) (b s : ByteArray) : Prop := b.size = 32 /\ s = pgT k b /\ ∀ j, j < 256 -> bitB b j = (decide (256 * k + j < n) && T (256 * k + j))
def MS (M : List ByteArray) (a n : Nat) (T : Nat -> Bool) : Prop := ∀ k, k < pgs n -> ∃ b, Pg n T k b (M.getD (a + k) ByteArray.empty)
theorem Pg.bit {n : Nat} {T : Nat -> Bool} {k : Nat} {b s : ByteArray} (h : Pg n T k b s) (i : Nat) (hi : i < n) (hk : i / 256 = k) : bitB b i = T i := by
 have h1 := h.2.2 (i % 256) (Nat.mod_lt _ (by decide))
 rw [zFO, show 256 * k + i % 256 = i by omega] at h1
 rw [h1, decide_eq_true hi]
 rfl
theorem zFx {n i : Nat} (h : i < n) : i / 256 < pgs n := by unfold pgs; omega
theorem zC8 {n : Nat} (h : n <= 1024) : pgs n <= 4 := by unfold pgs; omega
def flp (T : Nat -> Bool) (p : Nat) : Nat -> Bool := fun i => if i = p then !T i else T i
theorem MS.turn {M : List ByteArray} {a n : Nat} {T : Nat -> Bool} (h : MS M a n T) (p : Nat) (hp : p < n) (b : ByteArray) (hb : Pg n T (p / 256) b (M.getD (a + p / 256) ByteArray.empty)) (hM : a + pgs n <= M.length) : MS (M.set (a + p / 256) (pgT (p / 256) (zBW b p))) a n (flp T p) := fun k hk => by
 have hpk := zFx hp
 by_cases e : k = p / 256
 ·subst e
  rw [zAz _ _ _ (by omega)]
  refine ⟨zBW b p, by rw [zDV]; exact hb.1, rfl, fun j hj => ?_⟩
  rw [zJR b hb.1, hb.2.2 j hj]
  unfold flp
  by_cases e2 : 256 * (p / 256) + j = p
  ·rw [if_pos (by omega), if_pos e2, e2, decide_eq_true hp]
   simp
  ·rw [if_neg (by omega), if_neg e2]
 ·obtain ⟨b', h1, h2, h3⟩ := h k hk
  rw [zA5 _ _ _ _ (by omega)]
  refine ⟨b', h1, h2, fun j hj => ?_⟩
  rw [h3 j hj]
  unfold flp
  rw [if_neg (show ¬ 256 * k + j = p by omega)]
def lstN (T : Nat -> Bool) (n : Nat) : List Nat := (List.range n).filter T
def lst (T : Nat -> Bool) (n : Nat) : List Int := (lstN T n).map fun (i : Nat) => (i : Int)
theorem zIf (T : Nat -> Bool) (n : Nat) : lst T (n + 1) = if T n then lst T n ++ [(n : Int)] else lst T n := by
 unfold lst lstN
 rw [List.range_succ, List.filter_append]
 cases h : T n <;> simp [h]
theorem zJE (T : Nat -> Bool) (n : Nat) : (lst T n).length <= n := by
 unfold lst lstN
 rw [List.length_map]
 have := List.length_filter_le T (List.range n)
 simpa using this
def Lea (T : Nat -> Bool) (n p : Nat) : Prop := p < n /\ T p = false /\ ∀ i, i < p -> T i = true
end
section
open Go.RowKit
theorem zMw (c : Nat) : (⟨(Lib.repeatL (ByteArray.mk #[0]).data.toList c).toArray⟩ : ByteArray) = strOfNums (List.replicate c 0) := by
 have h : Lib.repeatL (ByteArray.mk #[0]).data.toList c = List.replicate c 0 := by
  have := Lib.repeatL_replicate 0 1 c
  rw [Nat.mul_one] at this
  exact this
 rw [h, strOfNums]
 simp
theorem zCv : zFG := by
 intro c W hc
 have h := Tryz.strings_Repeat ⟨#[0]⟩ c W (by omega) (by show 1 * c <= _; omega)
 rw [zMw] at h
 exact h
end
section
open Go.RowKit
theorem zI5 (a b : Nat) (ha : a < 256) (hb : b < 256) : bits .and .u8 (a : Int) (b : Int) = ((a &&& b : Nat) : Int) := by
 have hx : a &&& b <= a := Nat.and_le_left
 have h1 : (BitVec.ofInt 8 (a : Int)).toNat = a := by
  rw [BitVec.ofInt_natCast, BitVec.toNat_ofNat]; exact Nat.mod_eq_of_lt (by omega)
 have h2 : (BitVec.ofInt 8 (b : Int)).toNat = b := by
  rw [BitVec.ofInt_natCast, BitVec.toNat_ofNat]; exact Nat.mod_eq_of_lt (by omega)
 show IntKind.u8.wrap ((BitVec.ofInt 8 (a : Int) &&& BitVec.ofInt 8 (b : Int)).toNat : Int) = _
 rw [BitVec.toNat_and, h1, h2, IntKind.wrap_u8]
 omega
theorem zI9 (a b : Nat) (ha : a < 256) (hb : b < 256) : bits .xor .u8 (a : Int) (b : Int) = ((a ^^^ b : Nat) : Int) := by
 have hx : a ^^^ b < 2 ^ 8 := Nat.xor_lt_two_pow (by omega) (by omega)
 have h1 : (BitVec.ofInt 8 (a : Int)).toNat = a := by
  rw [BitVec.ofInt_natCast, BitVec.toNat_ofNat]; exact Nat.mod_eq_of_lt (by omega)
 have h2 : (BitVec.ofInt 8 (b : Int)).toNat = b := by
  rw [BitVec.ofInt_natCast, BitVec.toNat_ofNat]; exact Nat.mod_eq_of_lt (by omega)
 show IntKind.u8.wrap ((BitVec.ofInt 8 (a : Int) ^^^ BitVec.ofInt 8 (b : Int)).toNat : Int) = _
 rw [BitVec.toNat_xor, h1, h2, IntKind.wrap_u8]
 omega
theorem zOc (x r : Nat) : (((x &&& 2 ^ r : Nat) : Int) != 0) = x.testBit r := by
 have h : 2 ^ r ≠ 0 := by have := Nat.two_pow_pos r; omega
 have e : x &&& 2 ^ r = if x.testBit r then 2 ^ r else 0 := by
  apply Nat.eq_of_testBit_eq
  intro i
  rw [Nat.testBit_and, Nat.testBit_two_pow]
  by_cases hi : r = i
  ·subst hi
   cases hx : x.testBit r <;> simp
  ·cases hx : x.testBit r <;> simp [hi]
 rw [e]
 generalize 2 ^ r = v at *
 cases x.testBit r
 ·simp
 ·simp; exact h
theorem zB9 (n : Nat) (hn : n <= 1024) (w : World) : Calls Tryz.prog 93 #[.int .i64 (n : Int)] w fun e w' => e = .returned (.int .i64 (pgs n : Int)) /\ w' = w := by
 have e1 : ((n : Int) + 256 - 1).tdiv 256 = (pgs n : Int) := by
  rw [Int.tdiv_eq_ediv_of_nonneg (by omega)]; unfold pgs; omega
 have hq := zC8 hn
 generalize pgs n = q at *
 go_enter Tryz.func93, Tryz.ntmps93
 go_wp2
 go_ret
 exact ⟨rfl, rfl⟩
theorem zCy (i : Nat) (hi : i < 1000000) (w : World) : Calls Tryz.prog 145 #[.int .i64 (i : Int)] w fun e w' => e = .returned (.int .i64 ((i / 256 : Nat) : Int)) /\ w' = w := by
 have e1 : (i : Int).tdiv 256 = ((i / 256 : Nat) : Int) := by
  rw [Int.tdiv_eq_ediv_of_nonneg (by omega)]; omega
 have hq : i / 256 < 1000000 := by omega
 generalize i / 256 = q at *
 go_enter Tryz.func145, Tryz.ntmps145
 go_wp2
 go_ret
 exact ⟨rfl, rfl⟩
theorem zCc (k : Nat) (hk : k <= 1000) (w : World) : Calls Tryz.prog 206 #[.int .i64 (k : Int)] w fun e w' => e = .returned (.int .i64 ((256 * k : Nat) : Int)) /\ w' = w := by
 have e1 : (k : Int) * 256 = ((256 * k : Nat) : Int) := by omega
 have hq : 256 * k < 1000000 := by omega
 generalize 256 * k = q at *
 go_enter Tryz.func206, Tryz.ntmps206
 go_wp2
 go_ret
 exact ⟨rfl, rfl⟩
theorem zE8 (i : Nat) (hi : i < 1000000) (w : World) : Calls Tryz.prog 207 #[.int .i64 (i : Int)] w fun e w' => e = .returned (.int .i64 ((i % 256 / 8 : Nat) : Int)) /\ w' = w := by
 have e1 : (i : Int).tmod 256 = ((i % 256 : Nat) : Int) := by
  rw [Int.tmod_eq_emod_of_nonneg (by omega)]; omega
 have hq1 : i % 256 < 256 := Nat.mod_lt _ (by decide)
 have e2 : ((i % 256 : Nat) : Int).tdiv 8 = ((i % 256 / 8 : Nat) : Int) := by
  rw [Int.tdiv_eq_ediv_of_nonneg (by omega)]; omega
 have hq : i % 256 / 8 < 32 := by omega
 generalize i % 256 / 8 = q at *
 generalize i % 256 = q1 at *
 go_enter Tryz.func207, Tryz.ntmps207
 go_wp2
 go_ret
 exact ⟨rfl, rfl⟩
theorem zGG (i : Nat) (hi : i < 1000000) (w : World) : Calls Tryz.prog 208 #[.int .i64 (i : Int)] w fun e w' => e = .returned (.int .u8 ((2 ^ (i % 8) : Nat) : Int)) /\ w' = w := by
 have e1 : (i : Int).tmod 8 = ((i % 8 : Nat) : Int) := by
  rw [Int.tmod_eq_emod_of_nonneg (by omega)]; omega
 have hq : i % 8 < 8 := Nat.mod_lt _ (by decide)
 generalize i % 8 = q at *
 obtain rfl | rfl | rfl | rfl | rfl | rfl | rfl | rfl : q = 0 ∨ q = 1 ∨ q = 2 ∨ q = 3 ∨ q = 4 ∨ q = 5 ∨ q = 6 ∨ q = 7 := by omega
 all_goals
  simp only [Int.cast_ofNat_Int] at e1
  go_enter Tryz.func208, Tryz.ntmps208
  go_wp2
  go_ret
  exact ⟨rfl, rfl⟩
theorem zBn (b : ByteArray) (hb : b.size = 32) (i : Nat) (hi : i < 1000000) (w : World) : Calls Tryz.prog 146 #[.string b, .int .i64 (i : Int)] w fun e w' => e = .returned (.bool (bitB b i)) /\ Below w.heap.size w w' := by
 have HB1 := uB (fun W => zE8 i hi W)
 have HB2 := uB (fun W => zGG i hi W)
 have hq : i % 256 / 8 < 32 := by omega
 have hr : i % 8 < 8 := Nat.mod_lt _ (by decide)
 have hix := zGx b (i % 256 / 8) (by omega)
 rw [zNr] at hix
 have han := zI5 (byN b (i % 256 / 8)) (2 ^ (i % 8)) (zKs _ _) (zKE _ hr)
 have hbt := zOc (byN b (i % 256 / 8)) (i % 8)
 have HBB := uB (show bitB b i = (byN b (i % 256 / 8)).testBit (i % 8) from rfl)
 generalize byN b (i % 256 / 8) &&& 2 ^ (i % 8) = av at *
 generalize byN b (i % 256 / 8) = x at *
 generalize hpp : 2 ^ (i % 8) = pw at *
 clear hpp hr
 generalize i % 256 / 8 = q at *
 generalize x.testBit (i % 8) = tb at *
 generalize bitB b i = bb at *
 have hbb := uA HBB
 clear HBB
 subst hbb
 go_enter Tryz.func146, Tryz.ntmps146
 go_wp2
 go_quiet ((first | (go_at_call 207; exact Calls.quiet_of_same (uA HB1 _)) | (go_at_call 208; exact Calls.quiet_of_same (uA HB2 _))))
 go_wp2
 go_ret
 exact ⟨rfl, below_drewN (Below.refl _ w) _⟩
def Mcs (pb a n : Nat) : Array Value := #[.pointer (some ⟨pb, 0, none⟩), .int .i64 (a : Int), .int .i64 (n : Int)]
def MB (w : World) (mb pb a n : Nat) : Prop := Blk w mb (Mcs pb a n) 195
theorem MB.only {w w' : World} {mb pb a n : Nat} {P : Nat -> Prop} (h : MB w mb pb a n) (ho : Only P w w') (hp : ¬ P mb) : MB w' mb pb a n := Blk.only h ho hp
theorem MB.below {w w' : World} {mb pb a n : Nat} (h : MB w mb pb a n) (hb : Below w.heap.size w w') : MB w' mb pb a n := Blk.below h hb h.lt
theorem MB.c0 {w : World} {mb pb a n : Nat} (h : MB w mb pb a n) : w.cell? ⟨mb, 0, none⟩ = some (.pointer (some ⟨pb, 0, none⟩)) := by rw [Blk.cell h]; rfl
theorem MB.c1 {w : World} {mb pb a n : Nat} (h : MB w mb pb a n) : w.cell? ⟨mb, 1, none⟩ = some (.int .i64 (a : Int)) := by rw [Blk.cell h]; rfl
theorem MB.c2 {w : World} {mb pb a n : Nat} (h : MB w mb pb a n) : w.cell? ⟨mb, 2, none⟩ = some (.int .i64 (n : Int)) := by rw [Blk.cell h]; rfl
def pin (n k : Nat) : Nat := min 256 (n - 256 * k)
theorem zCn {w : World} {mb pb a n : Nat} (h : MB w mb pb a n) (hn : n <= 1024) (k : Nat) (hk : k < pgs n) : Calls Tryz.prog 205 #[.pointer (some ⟨mb, 0, none⟩), .int .i64 (k : Int)] w fun e w' => e = .returned (.int .i64 (pin n k : Int)) /\ Below w.heap.size w w' := by
 have c2 := h.c2
 have hk4 := zC8 hn
 have hkn : 256 * k < n := by unfold pgs at hk; omega
 have HF := uB (fun W => zCc k (by omega) W)
 have e1 : (n : Int) - ((256 * k : Nat) : Int) = ((n - 256 * k : Nat) : Int) := by omega
 have hq : n - 256 * k <= 1024 := by omega
 have hpn : min (256 : Int) ((n - 256 * k : Nat) : Int) = (pin n k : Int) := by unfold pin; omega
 have hwq : IntKind.i64.wrap ((n - 256 * k : Nat) : Int) = ((n - 256 * k : Nat) : Int) := zAB _ (by omega) (by omega)
 generalize pin n k = pn at *
 generalize n - 256 * k = q at *
 generalize 256 * k = f at *
 clear hk hk4
 go_enter Tryz.func205, Tryz.ntmps205
 go_wp2
 refine wp_region_held_drew (S := fun w' => w'.cell? ⟨mb, 2, none⟩ = some (.int .i64 (n : Int))) (by kernel_rfl) c2 ?_
 intro hS
 refine yL 0 (some 5) (.pointer (some ⟨mb, 0, none⟩)) rfl (fun w hSw => by have q1 : _ = _ := hSw; go_simp) hS ?_
 refine yL 1 (some 6) (.pointer (some ⟨mb, 0, none⟩)) rfl (fun w hSw => by have q1 : _ = _ := hSw; go_simp) hS ?_
 refine yL 2 (some 7) (.pointer (some ⟨mb, 2, none⟩)) rfl (fun w hSw => by have q1 : _ = _ := hSw; go_simp) hS ?_
 refine yL 3 (some 8) (.int .i64 (n : Int)) rfl (fun w hSw => by have q1 : _ = _ := hSw; go_simp) hS ?_
 refine yL 4 (some 9) (.int .i64 (k : Int)) rfl (fun w hSw => by have q1 : _ = _ := hSw; go_simp) hS ?_
 refine wpAnyH_ready (rs := [5]) (by kernel_rfl) (by simp) ?_
 refine AllReadyH.cons rfl (fun K hK => ?_) AllReadyH.nil
 simp only [List.getElem_toArray, List.getElem_cons_succ, List.getElem_cons_zero]
 go_simp
 refine (uA HF _).mono ?_
 rintro e x1 ⟨rfl, hx1⟩
 subst hx1
 refine hK.out _ _ c2 (fun hS => ?_)
 clear hK K
 refine yL 6 (some 11) (.int .i64 (q : Int)) rfl (fun w hSw => by have q1 : _ = _ := hSw; go_simp) hS ?_
 refine wpAnyH_ready (rs := [7]) (by kernel_rfl) (by simp) ?_
 refine AllReadyH.cons rfl (fun K hK => ?_) AllReadyH.nil
 simp only [List.getElem_toArray, List.getElem_cons_succ, List.getElem_cons_zero]
 go_simp
 refine hK.out _ _ c2 (fun hS => ?_)
 clear hK K
 refine yL 8 (some 4) (.int .i64 (pn : Int)) rfl (fun w hSw => by have q1 : _ = _ := hSw; go_simp) hS ?_
 refine wpAnyH_done (by kernel_rfl) ?_ _
 go_wp2
 go_ret
 exact ⟨rfl, (Below.refl _ w).drew⟩
theorem zEe {w : World} {mb pb a n : Nat} (h : MB w mb pb a n) (z : Int) : Calls Tryz.prog 144 #[.pointer (some ⟨mb, 0, none⟩), .int .i64 z] w fun e w' => e = .returned (.bool (decide (0 <= z) && decide (z < (n : Int)))) /\ w' = w := by
 have c2 := h.c2
 clear h
 by_cases h0 : 0 <= z
 ·have hd : decide ((0 : Int) <= z) = true := by simpa using h0
  rw [hd, Bool.true_and]
  clear h0
  generalize hdz : decide (z < (n : Int)) = dz at *
  go_enter Tryz.func144, Tryz.ntmps144
  go_wp2
  go_ret
  exact ⟨rfl, rfl⟩
 ·have hd : decide ((0 : Int) <= z) = false := by simpa using h0
  rw [hd, Bool.false_and]
  clear h0
  go_enter Tryz.func144, Tryz.ntmps144
  go_wp2
  go_ret
  exact ⟨rfl, rfl⟩
theorem zEA (z : Int) (w : World) : Calls Tryz.prog 92 #[.int .i64 z] w fun e w' => e = .returned (.bool (decide (1 <= z) && decide (z <= 1024))) /\ w' = w := by
 by_cases h0 : 1 <= z
 ·have hd : decide ((1 : Int) <= z) = true := by simpa using h0
  rw [hd, Bool.true_and]
  clear h0
  generalize hdz : decide (z <= 1024) = dz at *
  go_enter Tryz.func92, Tryz.ntmps92
  go_wp2
  go_ret
  exact ⟨rfl, rfl⟩
 ·have hd : decide ((1 : Int) <= z) = false := by simpa using h0
  rw [hd, Bool.false_and]
  clear h0
  go_enter Tryz.func92, Tryz.ntmps92
  go_wp2
  go_ret
  exact ⟨rfl, rfl⟩
theorem zD2 (k : Nat) (b : ByteArray) (w : World) : Calls Tryz.prog 94 #[.int .i64 (k : Int), .string b] w fun e w' => e = .returned (.string (pgT k b)) /\ Below w.heap.size w w' := by
 have HM := uB (fun W => zF3 zCv 3 (k : Int) b W)
 have HP := uB (show pgT k b = zBv 3 (k : Int) b from rfl)
 generalize pgT k b = t at *
 generalize zBv 3 (k : Int) b = t2 at *
 generalize errM 3 (k : Int) b.size = er at *
 go_enter Tryz.func94, Tryz.ntmps94
 go_wp2_with (go_at_call 169; refine (uA HM _).mono ?_; rintro e w1 ⟨rfl, hb⟩)
 go_ret
 exact ⟨by rw [uA HP]; rfl, hb⟩
def bdOk (t : ByteArray) (k : Nat) : Prop := prOk t /\ pkd t = 3 /\ pnm t = (k : Int) /\ (pbd t).size = 32
instance (t : ByteArray) : Decidable (prOk t) := inferInstanceAs (Decidable (_ /\ _))
instance (t : ByteArray) (k : Nat) : Decidable (bdOk t k) := inferInstanceAs (Decidable (_ /\ _))
def bdT (t : ByteArray) (k : Nat) : ByteArray := if bdOk t k then pbd t else ⟨#[]⟩
theorem zN5 (k : Nat) (hk : k < 1024) (b : ByteArray) (hb : b.size = 32) : bdOk (pgT k b) k /\ bdT (pgT k b) k = b := by
 obtain ⟨h1, h2, h3, h4⟩ := zGZ k hk b hb
 have h : bdOk (pgT k b) k := ⟨h1, h2, h3, by rw [h4]; exact hb⟩
 exact ⟨h, by rw [bdT, if_pos h, h4]⟩
theorem zJb (t : ByteArray) (ht : t.size <= 9223372036854775807) (k : Nat) (w : World) (hg : ETy w) : Calls Tryz.prog 204 #[.string t, .int .i64 (k : Int)] w fun e w' => e = .returned (.tuple #[.string (bdT t k), .bool (decide (bdOk t k))]) /\ Below w.heap.size w w' := by
 have HP := uB (zES zCv t ht w hg)
 clear ht hg
 go_enter Tryz.func204, Tryz.ntmps204
 go_wp2_with fail
 refine (uA HP).mono ?_
 rintro e x1 ⟨q, hb1⟩
 have HB1 := uB hb1
 clear HP hb1
 rcases q with ⟨hpr, rfl⟩ | ⟨hpr, rfl⟩
 ·by_cases h : bdOk t k
  ·have HT := uB (show bdT t k = pbd t /\ decide (bdOk t k) = true from ⟨by rw [bdT, if_pos h], decide_eq_true h⟩)
   obtain ⟨h1, h2, h3, h4⟩ := h
   rw [h2, h3]
   have h4' : (((pbd t).size : Int) != 32) = false := by rw [h4]; rfl
   have h3' : ((k : Int) != (k : Int)) = false := by simp
   clear h1 h2 h3 hpr h4
   generalize pbd t = bd at *
   go_wp2
   go_ret2
   rw [(uA HT).1, (uA HT).2]
   exact ⟨rfl, (uA HB1).trans (((Below.refl _ x1).alloc (Nat.le_refl _) _).mono (uA HB1).size)⟩
  ·have HT := uB (show bdT t k = ⟨#[]⟩ /\ decide (bdOk t k) = false from ⟨by rw [bdT, if_neg h], decide_eq_false h⟩)
   have hc : ¬ (pkd t = 3 /\ pnm t = (k : Int) /\ (pbd t).size = 32) := fun q => h ⟨hpr, q.1, q.2.1, q.2.2⟩
   clear h hpr
   generalize pkd t = kd at *
   generalize pnm t = nm at *
   generalize pbd t = bd at *
   by_cases q1 : kd = 3
   ·subst q1
    by_cases q2 : nm = (k : Int)
    ·subst q2
     have q3 : ((bd.size : Int) != 32) = true := by
      simp only [true_and] at hc
      simp; omega
     have h3' : ((k : Int) != (k : Int)) = false := by simp
     clear hc
     go_wp2
     go_ret2
     rw [(uA HT).1, (uA HT).2]
     exact ⟨rfl, (uA HB1).trans (((Below.refl _ x1).alloc (Nat.le_refl _) _).mono (uA HB1).size)⟩
    ·have q2' : (nm != (k : Int)) = true := by simpa using q2
     clear hc q2
     go_wp2
     go_ret2
     rw [(uA HT).1, (uA HT).2]
     exact ⟨rfl, (uA HB1).trans (((Below.refl _ x1).alloc (Nat.le_refl _) _).mono (uA HB1).size)⟩
   ·have q1' : (kd != 3) = true := by simpa using q1
    clear hc q1
    go_wp2
    go_ret2
    rw [(uA HT).1, (uA HT).2]
    exact ⟨rfl, (uA HB1).trans (((Below.refl _ x1).alloc (Nat.le_refl _) _).mono (uA HB1).size)⟩
 ·have h : ¬ bdOk t k := fun q => hpr q.1
  have HT := uB (show bdT t k = ⟨#[]⟩ /\ decide (bdOk t k) = false from ⟨by rw [bdT, if_neg h], decide_eq_false h⟩)
  clear h hpr
  go_wp2
  go_ret2
  rw [(uA HT).1, (uA HT).2]
  exact ⟨rfl, (uA HB1).trans (((Below.refl _ x1).alloc (Nat.le_refl _) _).mono (uA HB1).size)⟩
end
section
open Go.Shelf
def Tryz.insL_ren : Go.Shelf.Ren := ⟨fun | 21 => 121 | 27 => 189 | 28 => 190 | 35 => 255 | 39 => 304 | n => n, fun | 22 => 53 | 3 => 3 | 4 => 4 | 0 => 0 | n => n, fun | n => n⟩
theorem Tryz.insL : Go.Proofs.Lays2.n21 Tryz.prog Tryz.insL_ren := {
 mixed := by kernel_rfl
 f21 := Tryz.func121.trans (congrArg some (by kernel_rfl))
 f27 := Tryz.func189.trans (congrArg some (by kernel_rfl))
 f28 := Tryz.func190.trans (congrArg some (by kernel_rfl))
 f35 := Tryz.func255.trans (congrArg some (by kernel_rfl))
 f39 := Tryz.func304.trans (congrArg some (by kernel_rfl))
 t0 := Tryz.underlying0
 a0 := Tryz.isAgg0
 z0 := Tryz.sizeOf0
 v0 := Tryz.zeroValue0
 t3 := Tryz.underlying3
 a3 := Tryz.isAgg3
 z3 := Tryz.sizeOf3
 v3 := Tryz.zeroValue3
 t4 := Tryz.underlying4
 a4 := Tryz.isAgg4
 z4 := Tryz.sizeOf4
 v4 := Tryz.zeroValue4
 t22 := Tryz.underlying53
 a22 := Tryz.isAgg53
 z22 := Tryz.sizeOf53
 v22 := Tryz.zeroValue53
 i3 := by kernel_rfl }
def Tryz.delL_ren : Go.Shelf.Ren := ⟨fun | 10 => 187 | 6 => 254 | n => n, fun | 22 => 53 | 23 => 3 | 25 => 101 | 3 => 3 | 4 => 4 | 0 => 0 | n => n, fun | n => n⟩
theorem Tryz.delL : Go.Proofs.SlLaysH.n10 Tryz.prog Tryz.delL_ren := {
 mixed := by kernel_rfl
 f6 := ⟨Tryz.f254.name, by decide, Tryz.func254.trans (congrArg some (by kernel_rfl))⟩
 f10 := ⟨Tryz.f187.name, by decide, Tryz.func187.trans (congrArg some (by kernel_rfl))⟩
 t0 := Tryz.underlying0
 a0 := Tryz.isAgg0
 z0 := Tryz.sizeOf0
 v0 := Tryz.zeroValue0
 t3 := Tryz.underlying3
 a3 := Tryz.isAgg3
 z3 := Tryz.sizeOf3
 v3 := Tryz.zeroValue3
 t4 := Tryz.underlying4
 a4 := Tryz.isAgg4
 z4 := Tryz.sizeOf4
 v4 := Tryz.zeroValue4
 t22 := Tryz.underlying53
 a22 := Tryz.isAgg53
 z22 := Tryz.sizeOf53
 v22 := Tryz.zeroValue53
 a23 := Tryz.isAgg3
 z23 := Tryz.sizeOf3
 t25 := Tryz.underlying101
 a25 := Tryz.isAgg101
 z25 := Tryz.sizeOf101
 v25 := Tryz.zeroValue101 }
def Tryz.keysL_ren : Go.Shelf.Ren := ⟨fun | 7 => 177 | 10 => 250 | n => n, fun | 23 => 80 | 26 => 3 | 3 => 9 | 28 => 241 | 0 => 0 | 27 => 240 | 33 => 101 | 4 => 4 | n => n, fun | n => n⟩
theorem Tryz.keysL : Go.Proofs.SlLaysZI.n7 Tryz.prog Tryz.keysL_ren := {
 mixed := by kernel_rfl
 f7 := ⟨Tryz.f177.name, by decide, Tryz.func177.trans (congrArg some (by kernel_rfl))⟩
 f10 := ⟨Tryz.f250.name, by decide, Tryz.func250.trans (congrArg some (by kernel_rfl))⟩
 t0 := Tryz.underlying0
 a0 := Tryz.isAgg0
 z0 := Tryz.sizeOf0
 v0 := Tryz.zeroValue0
 t4 := Tryz.underlying4
 a4 := Tryz.isAgg4
 z4 := Tryz.sizeOf4
 v4 := Tryz.zeroValue4
 t23 := Tryz.underlying80
 a23 := Tryz.isAgg80
 z23 := Tryz.sizeOf80
 v23 := Tryz.zeroValue80
 t26 := Tryz.underlying3
 a26 := Tryz.isAgg3
 z26 := Tryz.sizeOf3
 v26 := Tryz.zeroValue3
 t27 := Tryz.underlying240
 a27 := Tryz.isAgg240
 z27 := Tryz.sizeOf240
 v27 := Tryz.zeroValue240
 t28 := Tryz.underlying241
 a28 := Tryz.isAgg241
 z28 := Tryz.sizeOf241
 v28 := Tryz.zeroValue241
 t33 := Tryz.underlying101
 a33 := Tryz.isAgg101
 z33 := Tryz.sizeOf101
 v33 := Tryz.zeroValue101 }
def Tryz.sortedL_ren : Go.Shelf.Ren := ⟨fun | 6 => 176 | 8 => 249 | 9 => 182 | 11 => 292 | 13 => 253 | 12 => 252 | 23 => 302 | 24 => 303 | 14 => 293 | 15 => 294 | 16 => 295 | 17 => 296 | 18 => 297 | 19 => 298 | 20 => 299 | 21 => 300 | 22 => 301 | 25 => 322 | 26 => 323 | 27 => 324 | 28 => 325 | 29 => 326 | 30 => 327 | 31 => 339 | n => n, fun | 26 => 3 | 28 => 241 | 24 => 53 | 0 => 0 | 3 => 3 | 37 => 212 | 48 => 149 | 50 => 289 | 4 => 4 | 40 => 349 | 39 => 348 | 45 => 36 | 5 => 5 | 9 => 9 | 51 => 365 | 55 => 369 | 57 => 386 | 58 => 56 | 33 => 101 | n => n, fun | n => n⟩
theorem Tryz.sortedL : Go.Proofs.SlLaysZI.n6 Tryz.prog Tryz.sortedL_ren := {
 mixed := by kernel_rfl
 f6 := ⟨Tryz.f176.name, by decide, Tryz.func176.trans (congrArg some (by kernel_rfl))⟩
 f8 := ⟨Tryz.f249.name, by decide, Tryz.func249.trans (congrArg some (by kernel_rfl))⟩
 f11 := ⟨Tryz.f292.name, by decide, Tryz.func292.trans (congrArg some (by kernel_rfl))⟩
 t0 := Tryz.underlying0
 a0 := Tryz.isAgg0
 z0 := Tryz.sizeOf0
 v0 := Tryz.zeroValue0
 t24 := Tryz.underlying53
 a24 := Tryz.isAgg53
 z24 := Tryz.sizeOf53
 v24 := Tryz.zeroValue53
 t26 := Tryz.underlying3
 a26 := Tryz.isAgg3
 z26 := Tryz.sizeOf3
 v26 := Tryz.zeroValue3
 t28 := Tryz.underlying241
 a28 := Tryz.isAgg241
 z28 := Tryz.sizeOf241
 v28 := Tryz.zeroValue241
 i26 := by kernel_rfl }
end
end Go.Proofs.YtdpnbemagiekoaaGreatDoor
