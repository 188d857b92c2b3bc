import Derived.Test.YtiellebdliifdaaGreatDoorMt29
import Derived.Test.YtiellebdliifdaaGreatDoorMt18
namespace Go.Proofs.YtiellebdliifdaaGreatDoor
open Go.RowKit Go.Maps Go.Sort Go.Shelf
theorem Ints.fence {w w' : World} {p : Option Addr} {l : List Int} {X : Nat → Prop} (h : Ints w p l) (ho : Only (fun x => ¬ X x) w w') (hp : ∀ g o, p = some ⟨g, o, none⟩ → X g ∨ l = []) : Ints w' p l := fun j hj => by
 obtain ⟨g, o, e, hg, hc⟩ := h j hj
 refine ⟨g, o, e, Nat.lt_of_lt_of_le hg ho.size, ?_⟩
 rcases hp g o e with q | q
 ·exact (World.cell?_of_block (a := ⟨g, o + j, none⟩) (ho.2 g hg (fun r => r q))).trans hc
 ·subst q; cases hj
end Go.Proofs.YtiellebdliifdaaGreatDoor
namespace Go.Proofs.YtiellebdliifdaaGreatDoor
open Go.RowKit Go.Maps Go.Sort Go.Shelf
end Go.Proofs.YtiellebdliifdaaGreatDoor
namespace Go.Proofs.YtiellebdliifdaaGreatDoor
open Go.RowKit Go.Maps Go.Sort Go.Shelf
theorem flp_flp (T : Nat → Bool) (p : Nat) : flp (flp T p) p = T := by
 funext i
 unfold flp
 by_cases h : i = p
 ·simp [h]
 ·simp [h]
theorem flp_len (T : Nat → Bool) (p : Nat) (hT : T p = true) : ∀ n, p < n → (lst (flp T p) n).length + 1 = (lst T n).length
 | 0, h => absurd h (by omega)
 | n + 1, h => by
  rw [lst_succ, lst_succ]
  by_cases e : n = p
  ·subst e
   rw [flip_same, hT, lst_congr (flp T n) T n (fun i hi => flip_other T (by omega))]
   simp
  ·have ih := flp_len T p hT n (by omega)
   rw [flip_other T e]
   cases T n
   ·exact ih
   ·simp only [if_true, List.length_append, List.length_singleton]; omega
theorem flp_len' (T : Nat → Bool) (p n : Nat) (hT : T p = false) (h : p < n) : (lst (flp T p) n).length = (lst T n).length + 1 := by
 have := flp_len (flp T p) p (by rw [flip_same, hT]; rfl) n h
 rw [flp_flp] at this
 omega
end Go.Proofs.YtiellebdliifdaaGreatDoor
namespace Go.Proofs.YtiellebdliifdaaGreatDoor
open Go.RowKit Go.Maps Go.Sort Go.Shelf
theorem DF.of {w0 w1 w : World} {b : Nat} {s : DSt} {X : Nat → Prop} (h : DI w1 w b s) (hb : Below w0.heap.size w0 w) (hle : w0.heap.size ≤ w1.heap.size) (hX : ∀ x, X x → x < w1.heap.size) : DF w0 w b s X := by
 obtain ⟨v, h1, h2, h3⟩ := h
 refine ⟨v, h1.lower hle, hb, h3, fun x hx => ⟨fun q => ?_, Nat.lt_of_lt_of_le (hX x hx) h2.size⟩⟩
 have := (h1.fd x q).1
 have := hX x hx
 omega
theorem DF.poke {w0 w w' : World} {b : Nat} {s : DSt} {X : Nat → Prop} (h : DF w0 w b s X) {g : Nat} (hg : X g) (hlo : w0.heap.size ≤ g) (ho : Only (fun x => x = g) w w') : DF w0 w' b s X := by
 obtain ⟨v, h1, h2, h3, h4⟩ := h
 exact ⟨v, h1.only ho (fun k q r => (h4 g hg).1 (by rw [← r]; exact q)), h2.trans (ho.below h2.size (fun k hk q => by omega)), h3, fun x hx => ⟨(h4 x hx).1, Nat.lt_of_lt_of_le (h4 x hx).2 ho.size⟩⟩
theorem openV {w0 w : World} {b : Nat} {L : List ByteArray} {A : List (Nat × Nat)} {X : Nat → Prop} (h : DF w0 w b (rs L A) X) (hg : ETy w) (n : Nat) (hn : n < 4294967296) (hL : 1 < L.length) (hh : L.getD 1 ByteArray.empty = headB n []) (ha : A.length ≤ 10000000) :
  Calls Tryz.prog 116 #[.pointer (some ⟨b, 0, none⟩)] w fun e w' => ∃ jb', e = .returned (.tuple #[.pointer (some ⟨jb', 0, none⟩), .bool false, .int .i64 0]) ∧ JK w0 w' b jb' (rs L A) ((n + 1) % 4294967296) false X ∧ Only (fun x => ¬ X x) w w' := by
 obtain ⟨v, h1, h5, h6, h7⟩ := h
 refine (open_clear h1 hg h5.size h6 n hn hL hh ha).mono ?_
 rintro e w' ⟨jb', rfl, v', k1, k2, k3, k4, k5, k6⟩
 have hb := h5.size
 refine ⟨jb', rfl, ⟨v', k1, k2, k3, by omega, DI.only h1 h5 k5, h6, fun x hx => ⟨fun q => ?_, ?_, ?_⟩⟩, k5.widen (fun k _ q r => (h7 k r).1 q)⟩
 ·rcases k6 x q with r | r
  ·exact (h7 x hx).1 r
  ·have := (h7 x hx).2; omega
 ·have := (h7 x hx).2; omega
 ·exact Nat.lt_of_lt_of_le (h7 x hx).2 k5.size
def PoolV (w0 w : World) (b n kp : Nat) (X : Nat → Prop) (R : List ByteArray → List (Nat × Nat) → Nat → (Nat → Bool) → Prop) (e : Ending) (w' : World) : Prop :=
 ∃ jb pb S L A n0 T, e = .returned (.tuple #[.pointer (some ⟨pb, 0, none⟩), .int .i64 0]) ∧ PK w0 w' b jb pb S X ∧ Only (fun x => ¬ X x) w w' ∧ Seen S L A n0 L L ∧ S.op = false ∧ (S.tx = [] ∧ S.keep = kp) ∧ MS L 19 n T ∧ R L A n0 T
theorem popenV {w0 w : World} {b : Nat} {L : List ByteArray} {A : List (Nat × Nat)} {n : Nat} {T : Nat → Bool} {X : Nat → Prop} (h : DF w0 w b (rs L A) X) (hg : ETy w) (n0 : Nat) (hn0 : n0 < 4294967296) (hL : L.length = 128) (hz : ∀ t ∈ L, t.size = 256) (hh : L.getD 1 ByteArray.empty = headB n0 []) (ha : A.length ≤ 10000000) (keep : Nat) (hk : keep ≤ 64) (hm : MS L 19 n T) (R : List ByteArray → List (Nat × Nat) → Nat → (Nat → Bool) → Prop) (hR : R L A n0 T) :
  Calls Tryz.prog 73 #[.pointer (some ⟨b, 0, none⟩), .int .i64 (keep : Int)] w (PoolV w0 w b n keep X R) := by
 refine (popen_any w b keep hk (fun jp ag er w1 => er = 0 ∧ ∃ jb', jp = some ⟨jb', 0, none⟩ ∧ JK w0 w1 b jb' (rs L A) ((n0 + 1) % 4294967296) false X ∧ Only (fun x => ¬ X x) w w1) ((openV h hg n0 hn0 (by omega) hh ha).mono (fun e w1 q => by
  obtain ⟨jb', rfl, q1, q2⟩ := q
  exact ⟨_, _, _, rfl, rfl, jb', rfl, q1, q2⟩))).mono ?_
 rintro e w' ⟨jp, ag, er, w1, ⟨rfl, jb', rfl, hJ, hO⟩, q | ⟨_, pb', bw', bv', rfl, hP⟩⟩
 ·exact absurd rfl q.1
 ·exact ⟨jb', pb', _, L, A, n0, T, rfl, POk.pk hJ hk hP, hO.trans (Only.of_below (P := fun x => ¬ X x) hP.2.2.2.2.2.2.2) (fun _ _ q => q), ⟨⟨rfl, rfl, rfl, rfl⟩, hL, hz, hh, hn0, fun k _ _ => rfl, hL, hL, fun k _ _ => rfl, fun _ => rfl, fun p hp => by cases hp⟩, rfl, ⟨rfl, rfl⟩, hm, hR⟩
set_option maxHeartbeats 400000 in
theorem pick10_any (c : Int) (n : Nat) (hn : 0 < n) (hc : I64 c) (N : Int) (hN : N = (n : Int)) (w : World) :
  Calls Tryz.prog 14 #[.int .i64 c, .int .i64 N] w fun e w' => e = .returned (.int .i64 (pickP c n : Int)) ∧ w' = w := by
 subst hN
 obtain ⟨hc1, hc2⟩ := hc
 have hz : ((n : Int) == 0) = false := by simp; omega
 by_cases h : c < 0
 ·have e1 : (-(c + 1)).tmod (n : Int) = (-(c + 1)) % (n : Int) := Int.tmod_eq_emod_of_nonneg (by omega)
  have hp : 0 ≤ (-(c + 1)) % (n : Int) := Int.emod_nonneg _ (by omega)
  have hl : (-(c + 1)) % (n : Int) < (n : Int) := Int.emod_lt_of_pos _ (by omega)
  have HP := hide (show (pickP c n : Int) = (-(c + 1)) % (n : Int) by rw [pickP, if_pos h]; omega)
  go_enter Tryz.func14, Tryz.ntmps14
  go_wp2
  go_ret
  exact ⟨by rw [unhide HP]; rfl, rfl⟩
 ·have e1 : c.tmod (n : Int) = c % (n : Int) := Int.tmod_eq_emod_of_nonneg (by omega)
  have hp : 0 ≤ c % (n : Int) := Int.emod_nonneg _ (by omega)
  have hl : c % (n : Int) < (n : Int) := Int.emod_lt_of_pos _ (by omega)
  have HP := hide (show (pickP c n : Int) = c % (n : Int) by rw [pickP, if_neg h]; omega)
  go_enter Tryz.func14, Tryz.ntmps14
  go_wp2
  go_ret
  exact ⟨by rw [unhide HP]; rfl, rfl⟩
def eN (c : Int) (i : Nat) : Int := bits .xor .u8 (c / 2 ^ (8 * (i % 8)) % 256) ((i : Int) + 1)
def eL (c : Int) (k : Nat) : List Int := (List.range k).map (eN c)
theorem eL_len (c : Int) (k : Nat) : (eL c k).length = k := by simp [eL]
def eD (c : Int) : ByteArray := strOfNums ((eL c 80).take 32)
def eW (c : Int) : ByteArray := strOfNums ((eL c 80).drop 32)
theorem eD_size (c : Int) : (eD c).size = 32 := by rw [eD, strOfNums_size, List.length_take, eL_len]; rfl
theorem eW_size (c : Int) : (eW c).size = 48 := by rw [eW, strOfNums_size, List.length_drop, eL_len]
def zeroEl (c : Int) (k : Nat) : List Int := eL c k ++ List.replicate (80 - k) 0
theorem zeroEl_len (c : Int) (k : Nat) (h : k ≤ 80) : (zeroEl c k).length = 80 := by rw [zeroEl, List.length_append, eL_len, List.length_replicate]; omega
theorem zeroEl_set (c : Int) (k : Nat) (h : k < 80) : (zeroEl c k).set k (eN c k) = zeroEl c (k + 1) := by
 unfold zeroEl
 rw [List.set_append_right _ _ (by rw [eL_len]; exact Nat.le_refl _), eL_len, Nat.sub_self]
 rw [show 80 - k = (80 - (k + 1)) + 1 by omega, List.replicate_succ, List.set_cons_zero]
 rw [show eL c (k + 1) = eL c k ++ [eN c k] by simp [eL, List.range_succ], List.append_assoc]
 rfl
set_option maxRecDepth 100000 in
set_option maxHeartbeats 2000000 in
theorem entry_any (c : Int) (hc : I64 c) (w : World) : Calls Tryz.prog 18 #[.int .i64 c] w fun e w' => e = .returned (.agg #[.string (eD c), .string (eW c)]) ∧ Below w.heap.size w w' := by
 obtain ⟨g, hg⟩ : ∃ g, w.heap.size = g := ⟨_, rfl⟩
 obtain ⟨x1, hx1⟩ : ∃ q, w.alloc (.cells #[.string ⟨#[]⟩, .string ⟨#[]⟩] 47) = q := ⟨_, rfl⟩
 have B1 : Blk x1 g #[.string ⟨#[]⟩, .string ⟨#[]⟩] 47 := by rw [← hx1, ← hg]; exact Blk.new w _ _
 have hb1 : Below g w x1 := by rw [← hx1, ← hg]; exact (Below.refl _ w).alloc (Nat.le_refl _) _
 obtain ⟨g1, hg1⟩ : ∃ g, x1.heap.size = g := ⟨_, rfl⟩
 have hgg : g < g1 := by rw [← hg1]; exact B1.lt
 have hmk := run_make_u8 80 80 (by decide) (by decide) x1
 obtain ⟨x2, hx2⟩ : ∃ q, x1.alloc (.cells ((List.replicate 80 (0 : Int)).map (Value.int .u8)).toArray 5) = q := ⟨_, rfl⟩
 rw [hx2, hg1] at hmk
 simp only [Int.cast_ofNat_Int] at hmk
 have A2 : Arr x2 g1 0 .u8 (zeroEl c 0) := by rw [← hx2, ← hg1]; exact arr_new x1 .u8 _ 5 _ rfl
 have hb2 : Below g w x2 := by rw [← hx2]; exact hb1.alloc (by omega) _
 have B2 : Blk x2 g #[.string ⟨#[]⟩, .string ⟨#[]⟩] 47 := by rw [← hx2]; exact B1.alloc _
 have X2 := hide (And.intro A2 (And.intro hb2 (And.intro B2 hgg)))
 have HC := hide hc
 obtain ⟨hc1, hc2⟩ := hc
 clear B1 hb1 A2 hb2 B2 hx2
 rw [hg]
 go_enter Tryz.func18, Tryz.ntmps18
 go_wp2
 go_loopw [4] (fun i wr => ∃ k : Nat, k ≤ 80 ∧ i = .int .i64 (k : Int) ∧ Arr wr g1 0 .u8 (zeroEl c k) ∧ Below g w wr ∧ Blk wr g #[.string ⟨#[]⟩, .string ⟨#[]⟩] 47) (fun i _ => 80 - (intOf i).toNat)
 case atStart => exact ⟨0, by omega, rfl, (unhide X2).1, (unhide X2).2.1, (unhide X2).2.2.1⟩
 case round =>
  obtain ⟨k, hk, rfl, hA, hB, hE⟩ := hrel
  by_cases hkn : k < 80
  ·have hkn' : (k : Int) < 80 := by omega
   have hk0 : (0 : Int) ≤ (k : Int) := by omega
   have cg := hA.get0 k (by rw [zeroEl_len c k hk]; exact hkn)
   have cf := hA.free0 k (by rw [zeroEl_len c k hk]; exact hkn)
   have HX := hide (show Arr (wr.setCell ⟨g1, k, none⟩ (.int .u8 (eN c k))) g1 0 .u8 (zeroEl c (k + 1)) ∧ Below g w (wr.setCell ⟨g1, k, none⟩ (.int .u8 (eN c k))) ∧ Blk (wr.setCell ⟨g1, k, none⟩ (.int .u8 (eN c k))) g #[.string ⟨#[]⟩, .string ⟨#[]⟩] 47 from ⟨by rw [← zeroEl_set c k hkn]; exact hA.set0 k (by rw [zeroEl_len c k hk]; exact hkn) _, hB.setCell (by show g ≤ g1; omega) _, hE.other _ _ (by show g1 ≠ g; omega)⟩)
   rw [show eN c k = bits .xor .u8 (c / 2 ^ (8 * (k % 8)) % 256) ((k : Int) + 1) from rfl] at HX
   clear hA hB hE
   generalize (zeroEl c k).getD k 0 = oo at *
   go_wp2
   go_roundw
   case rel => exact ⟨k + 1, by omega, by go_num, (unhide HX).1, (unhide HX).2.1, (unhide HX).2.2⟩
   case measure => simp [intOf]; omega
  ·have hke : k = 80 := by omega
   have hkn' : ¬ (k : Int) < 80 := by omega
   rw [hke] at hA
   have hA' : Arr wr g1 0 .u8 (eL c 80) := by
    have : zeroEl c 80 = eL c 80 := by simp [zeroEl]
    rw [this] at hA
    exact hA
   have HLN := hide (eL_len c 80)
   have HED := hide (show strOfNums ((eL c 80).take 32) = eD c from rfl)
   have HEW := hide (show strOfNums ((eL c 80).drop 32) = eW c from rfl)
   have HSA := hide hA'
   have q0 : wr.drew.cell? ⟨g, 0, none⟩ = some (.string ⟨#[]⟩) := hE.cell 0
   have q1 : wr.drew.cell? ⟨g, 1, none⟩ = some (.string ⟨#[]⟩) := hE.cell 1
   have p0 : wr.drew.frozen? ⟨g, 0, none⟩ = false := hE.frozen 0
   have p1 : wr.drew.frozen? ⟨g, 1, none⟩ = false := hE.frozen 1
   have B6 : Blk ((wr.drew.setCell ⟨g, 0, none⟩ (.string (eD c))).setCell ⟨g, 1, none⟩ (.string (eW c))) g #[.string (eD c), .string (eW c)] 47 := (Blk.set (show Blk wr.drew g #[.string ⟨#[]⟩, .string ⟨#[]⟩] 47 from hE) 0 (.string (eD c))).set 1 (.string (eW c))
   have HLD := hide (iload_blk 47 _ B6 Tryz.underlying47 rfl (by kernel_rfl))
   have HB6 := hide ((hB.drew.setCell (p := ⟨g, 0, none⟩) (Nat.le_refl _) (.string (eD c))).setCell (p := ⟨g, 1, none⟩) (Nat.le_refl _) (.string (eW c)))
   have HA6 := hide (show Arr ((wr.drew.setCell ⟨g, 0, none⟩ (.string (eD c))).setCell ⟨g, 1, none⟩ (.string (eW c))) g1 0 .u8 (eL c 80) from (Arr.other (show Arr wr.drew g1 0 .u8 (eL c 80) from hA') _ _ (.inl (by show g ≠ g1; omega))).other _ _ (.inl (by show g ≠ g1; omega)))
   generalize eL c 80 = el at *
   obtain ⟨ed, hed⟩ : ∃ q, eD c = q := ⟨_, rfl⟩
   obtain ⟨ew, hew⟩ : ∃ q, eW c = q := ⟨_, rfl⟩
   rw [hed] at HED HLD HB6 HA6
   rw [hew] at HEW HLD HB6 HA6
   have HEQ := hide (And.intro hed hew)
   clear hA hA' hB hE B6 hke hed hew
   go_wp2
   refine wp_region_held_drew (S := fun w' => Arr w' g1 0 .u8 el) (by kernel_rfl) (unhide HSA) ?_
   intro hS
   generalize wr.drew = wd at *
   refine wpAnyH_takeD 0 (some 23) (.slice (some ⟨g1, 0, none⟩) 80 80) rfl rfl (by kernel_rfl) (by kernel_rfl) (by kernel_rfl) (fun _ _ _ h => h) (Or.inl ⟨by rfl, fun w hSw => by clear hSw; go_simp⟩) hS ?_
   simp only [Act.put, List.setIfInBounds_toArray, List.set_cons_zero, List.set_cons_succ]
   refine wpAnyH_takeD 1 (some 24) (.slice (some ⟨g1, 0, none⟩) 32 80) rfl rfl (by kernel_rfl) (by kernel_rfl) (by kernel_rfl) (fun _ _ _ h => h) (Or.inl ⟨by rfl, fun w hSw => by clear hSw; go_simp⟩) hS ?_
   simp only [Act.put, List.setIfInBounds_toArray, List.set_cons_zero, List.set_cons_succ]
   refine wpAnyH_takeD 2 (some 25) (.string ed) rfl rfl (by kernel_rfl) (by kernel_rfl) (by kernel_rfl) (fun _ _ _ h => h) (Or.inl ⟨by rfl, fun w hSw => by have hcv := run_convert_bytes_arg (P := Tryz.prog) w 101 5 Tryz.underlying101 Tryz.underlying5 g1 0 32 80 (el.take 32) (by rw [List.length_take, unhide HLN]; rfl) (fun j hj => by have := Arr.get hSw (0 + j) (by rw [unhide HLN]; omega); rw [Nat.zero_add] at this; rw [this]; simp [List.getD_eq_getElem?_getD, hj]) 9 Tryz.underlying9; rw [unhide HED] at hcv; go_simp⟩) hS ?_
   simp only [Act.put, List.setIfInBounds_toArray, List.set_cons_zero, List.set_cons_succ]
   refine wpAnyH_takeD 3 (some 26) (.slice (some ⟨g1, 0, none⟩) 80 80) rfl rfl (by kernel_rfl) (by kernel_rfl) (by kernel_rfl) (fun _ _ _ h => h) (Or.inl ⟨by rfl, fun w hSw => by clear hSw; go_simp⟩) hS ?_
   simp only [Act.put, List.setIfInBounds_toArray, List.set_cons_zero, List.set_cons_succ]
   refine wpAnyH_takeD 4 (some 27) (.slice (some ⟨g1, 32, none⟩) 48 48) rfl rfl (by kernel_rfl) (by kernel_rfl) (by kernel_rfl) (fun _ _ _ h => h) (Or.inl ⟨by rfl, fun w hSw => by clear hSw; go_simp⟩) hS ?_
   simp only [Act.put, List.setIfInBounds_toArray, List.set_cons_zero, List.set_cons_succ]
   refine wpAnyH_takeD 5 (some 28) (.string ew) rfl rfl (by kernel_rfl) (by kernel_rfl) (by kernel_rfl) (fun _ _ _ h => h) (Or.inl ⟨by rfl, fun w hSw => by have hcv := run_convert_bytes_arg (P := Tryz.prog) w 101 5 Tryz.underlying101 Tryz.underlying5 g1 32 48 48 (el.drop 32) (by rw [List.length_drop, unhide HLN]) (fun j hj => by have := Arr.get hSw (32 + j) (by rw [unhide HLN]; omega); rw [Nat.zero_add] at this; rw [this]; simp [List.getD_eq_getElem?_getD, List.getElem?_drop]) 9 Tryz.underlying9; rw [unhide HEW] at hcv; go_simp⟩) hS ?_
   simp only [Act.put, List.setIfInBounds_toArray, List.set_cons_zero, List.set_cons_succ]
   refine wpAnyH_takeD 6 (some 29) (.agg #[.string ed, .string ew]) rfl rfl (by kernel_rfl) (by kernel_rfl) (by kernel_rfl) (fun _ _ _ h => h) (Or.inl ⟨by rfl, fun w hSw => by clear hSw; go_simp⟩) hS ?_
   simp only [Act.put, List.setIfInBounds_toArray, List.set_cons_zero, List.set_cons_succ]
   refine wpAnyH_ready (rs := [7]) (by kernel_rfl) (by simp) ?_
   refine AllReadyH.cons rfl (fun K hK => ?_) AllReadyH.nil
   simp only [List.getElem_toArray, List.getElem_cons_succ, List.getElem_cons_zero]
   go_simp
   refine hK.out _ _ (unhide HA6) (fun hS => ?_)
   clear hK K
   refine wpAnyH_done (by kernel_rfl) ?_ _
   clear hS
   go_wp2
   exact bodyPost_ret (v := .agg #[.string ed, .string ew]) (results_cell rfl _ _ _ ⟨g, 0, none⟩ rfl _ (unhide HLD)) rfl ⟨by rw [(unhide HEQ).1, (unhide HEQ).2], unhide HB6⟩
end Go.Proofs.YtiellebdliifdaaGreatDoor
namespace Go.Proofs.YtiellebdliifdaaGreatDoor
open Go.RowKit Go.Maps Go.Sort Go.Shelf
def Plc (b pb mb sb tb : Nat) : Array Value := #[.pointer (some ⟨b, 0, none⟩), .pointer (some ⟨pb, 0, none⟩), .pointer (some ⟨mb, 0, none⟩), .pointer (some ⟨sb, 0, none⟩), .pointer (some ⟨tb, 0, none⟩)]
def Xlv (mb sb gb : Nat) (Z : Nat → Prop) : Nat → Prop := fun x => (x = mb ∨ x = sb) ∨ (x = gb ∨ Z x)
def OpnV (w0 : World) (b n kp gb : Nat) (Z : Nat → Prop) (R : List ByteArray → List (Nat × Nat) → Nat → (Nat → Bool) → Prop) (w' : World) : Prop :=
 ∃ jb pb mb sb tb S L A n0 T, MG w0 w' b jb pb mb sb (Xlv mb sb gb Z) n S L A n0 L L T ∧ (S.op = false ∧ S.tx = [] ∧ S.keep = kp) ∧ Blk w' gb (Plc b pb mb sb tb) 30 ∧ R L A n0 T
set_option maxRecDepth 100000 in
set_option maxHeartbeats 2000000 in
theorem mOpen_any (pb mb : Nat) (w : World) : Calls Tryz.prog 75 #[.pointer (some ⟨pb, 0, none⟩), .pointer (some ⟨mb, 0, none⟩), .int .i64 40] w fun e w' => e = .returned (.pointer (some ⟨w.heap.size, 0, none⟩)) ∧ w' = w.alloc (.cells (Scv pb mb) 129) := by
 go_enter Tryz.func75, Tryz.ntmps75
 go_wp2
 go_ret
 exact ⟨rfl, rfl⟩
set_option maxRecDepth 100000 in
set_option maxHeartbeats 2000000 in
theorem opened_any {w0 w : World} {b n kp gb : Nat} {Z : Nat → Prop} {R : List ByteArray → List (Nat × Nat) → Nat → (Nat → Bool) → Prop} (HO : Hid (Calls Tryz.prog 73 #[.pointer (some ⟨b, 0, none⟩), .int .i64 (kp : Int)] w (PoolV w0 w b n kp (fun x => x = gb ∨ Z x) R))) (hg : ETy w0) (hn1 : 1 ≤ n) (hn88 : n ≤ 88) (hlo : w0.heap.size ≤ gb) (p1 p2 p3 p4 : Value) (hB : Blk w gb #[.pointer (some ⟨b, 0, none⟩), p1, p2, p3, p4] 30) : Calls Tryz.prog 24 #[.pointer (some ⟨gb, 0, none⟩), .int .i64 (kp : Int), .int .i64 (n : Int)] w fun e w' => e = .returned (.bool true) ∧ OpnV w0 b n kp gb Z R w' := by
 have c0 : w.cell? ⟨gb, 0, none⟩ = some (.pointer (some ⟨b, 0, none⟩)) := hB.cell 0
 have HQ := hide (And.intro hg (And.intro hn1 (And.intro hn88 (And.intro hlo hB))))
 clear hg hn1 hn88 hlo hB
 go_enter Tryz.func24, Tryz.ntmps24
 go_wp2_with fail
 refine (unhide HO).mono ?_
 rintro e x1 ⟨jb, pb, S, L, A, n0, T, rfl, K, O1, hs, ho, ⟨ht, hk⟩, hm, hR⟩
 obtain ⟨hg, hn1, hn88, hlo, hB⟩ := unhide HQ
 have HM := hide (mopen_ok K hg hs hm (by decide) (by unfold pgs; omega) hn1 (by omega))
 simp only [Int.cast_ofNat_Int] at HM
 have X1 := hide (And.intro (hB.only O1 (fun q => q (.inl rfl))) (And.intro ho (And.intro ht (And.intro hk hR))))
 clear K O1 hs ho ht hk hm hR hg hn1 hn88 hlo hB HO c0
 go_wp2_with fail
 refine (unhide HM).mono ?_
 rintro e x2 ⟨mb, rfl, -, S2, G2, o2, t2, O2⟩
 obtain ⟨hg, hn1, hn88, hlo, -⟩ := unhide HQ
 have B2 := (unhide X1).1.only O2 (fun q => q (.inl rfl))
 have hne : gb ≠ mb := fun q => by have h1 := G2.mp; unfold MB at h1; rw [← q] at h1; have := (show x2.heap[gb]? = _ from B2).symm.trans h1; simp at this
 have d1 : x2.cell? ⟨gb, 1, none⟩ = some p1 := B2.cell 1
 have d2 : x2.cell? ⟨gb, 2, none⟩ = some p2 := B2.cell 2
 have f1 := B2.frozen 1
 have f2 := B2.frozen 2
 obtain ⟨x3, hx3⟩ : ∃ q, (x2.setCell ⟨gb, 1, none⟩ (.pointer (some ⟨pb, 0, none⟩))).setCell ⟨gb, 2, none⟩ (.pointer (some ⟨mb, 0, none⟩)) = q := ⟨_, rfl⟩
 have B3 : Blk x3 gb #[.pointer (some ⟨b, 0, none⟩), .pointer (some ⟨pb, 0, none⟩), .pointer (some ⟨mb, 0, none⟩), p3, p4] 30 := by rw [← hx3]; exact (B2.set 1 _).set 2 _
 have O3 : Only (fun x => x = gb) x2 x3 := by rw [← hx3]; exact ((Only.refl (fun x => x = gb) x2).setCell ⟨gb, 1, none⟩ _ (fun _ => rfl)).setCell ⟨gb, 2, none⟩ _ (fun _ => rfl)
 have G3 := G2.poke (Y := fun x => (fun x => x = gb ∨ Z x) x ∨ x = mb) O3 (fun x q _ => .inl (.inl q)) (fun x q => by rw [q]; exact hlo) (fun x q => .inl q) (.inr rfl) (fun q => hne q.symm)
 have HO1 := hide (mOpen_any pb mb x3)
 have X3 := hide (And.intro B3 (And.intro G3 (And.intro o2 (And.intro t2 hne))))
 clear G2 o2 t2 O2 hg hn1 hn88 hlo B2 hne B3 O3 G3 HM
 go_wp2_with fail
 refine (unhide HO1).mono ?_
 rintro e x4 ⟨rfl, hx4⟩
 obtain ⟨B3, G3, o2, t2, hne⟩ := unhide X3
 obtain ⟨hg, hn1, hn88, hlo, -⟩ := unhide HQ
 obtain ⟨sb, hsb⟩ : ∃ q, x3.heap.size = q := ⟨_, rfl⟩
 rw [hsb]
 have hb4 : Below x3.heap.size x3 x4 := by rw [hx4]; exact (Below.refl _ x3).alloc (Nat.le_refl _) _
 have St4 : Blk x4 sb (Scv pb mb) 129 := by rw [hx4, ← hsb]; exact Blk.new x3 _ _
 have B4 := B3.below hb4 B3.lt
 have hsg : gb ≠ sb := by rw [← hsb]; exact Nat.ne_of_lt B3.lt
 have G4 := G3.more (Y := Xlv mb sb gb Z) hb4 (fun x q => by
  rcases q with (q | q) | q
  ·exact .inl (.inr q)
  ·exact .inr ⟨by omega, by rw [q]; exact St4.lt⟩
  ·exact .inl (.inl q)) (.inl (.inl rfl))
 have M4 : MG w0 x4 b jb pb mb sb (Xlv mb sb gb Z) n S2 L A n0 L L T := ⟨G4, St4, .inl (.inr rfl), hn88⟩
 have d3 : x4.cell? ⟨gb, 3, none⟩ = some p3 := B4.cell 3
 have f3 := B4.frozen 3
 obtain ⟨x5, hx5⟩ : ∃ q, x4.setCell ⟨gb, 3, none⟩ (.pointer (some ⟨sb, 0, none⟩)) = q := ⟨_, rfl⟩
 have B5 : Blk x5 gb #[.pointer (some ⟨b, 0, none⟩), .pointer (some ⟨pb, 0, none⟩), .pointer (some ⟨mb, 0, none⟩), .pointer (some ⟨sb, 0, none⟩), p4] 30 := by rw [← hx5]; exact B4.set 3 _
 have O5 : Only (fun x => x = gb) x4 x5 := by rw [← hx5]; exact (Only.refl (fun x => x = gb) x4).setCell ⟨gb, 3, none⟩ _ (fun _ => rfl)
 have M5 := M4.poke (.inr (.inl rfl)) hlo hne hsg O5
 have HO2 := hide (mOpen_any pb mb x5)
 have X5 := hide (And.intro B5 (And.intro M5 (And.intro o2 (And.intro t2 (And.intro hne hsg)))))
 clear hx4 B3 G3 o2 t2 hne hg hn1 hn88 hlo hb4 St4 B4 hsg G4 M4 B5 O5 M5 X3 HO1 hx3 d1 d2 f1 f2 hsb
 go_wp2_with fail
 refine (unhide HO2).mono ?_
 rintro e x6 ⟨rfl, hx6⟩
 obtain ⟨B5, M5, o2, t2, hne, hsg⟩ := unhide X5
 obtain ⟨hg, hn1, hn88, hlo, -⟩ := unhide HQ
 obtain ⟨tb, htb⟩ : ∃ q, x5.heap.size = q := ⟨_, rfl⟩
 rw [htb]
 have hb6 : Below x5.heap.size x5 x6 := by rw [hx6]; exact (Below.refl _ x5).alloc (Nat.le_refl _) _
 have B6 := B5.below hb6 B5.lt
 have d3 : x6.cell? ⟨gb, 3, none⟩ = some (.pointer (some ⟨sb, 0, none⟩)) := B6.cell 3
 have d4 : x6.cell? ⟨gb, 4, none⟩ = some p4 := B6.cell 4
 have f4 := B6.frozen 4
 obtain ⟨x7, hx7⟩ : ∃ q, x6.setCell ⟨gb, 4, none⟩ (.pointer (some ⟨tb, 0, none⟩)) = q := ⟨_, rfl⟩
 have B7 : Blk x7 gb (Plc b pb mb sb tb) 30 := by rw [← hx7]; exact B6.set 4 _
 have O7 : Only (fun x => x = gb) x6 x7 := by rw [← hx7]; exact (Only.refl (fun x => x = gb) x6).setCell ⟨gb, 4, none⟩ _ (fun _ => rfl)
 have M7 := (M5.below hb6).poke (.inr (.inl rfl)) hlo hne hsg O7
 have e3 : x7.cell? ⟨gb, 3, none⟩ = some (.pointer (some ⟨sb, 0, none⟩)) := B7.cell 3
 have e4 : x7.cell? ⟨gb, 4, none⟩ = some (.pointer (some ⟨tb, 0, none⟩)) := B7.cell 4
 obtain ⟨-, h1, h2, h3, h4⟩ := unhide X1
 have HF := hide (show OpnV w0 b n kp gb Z R x7 from ⟨jb, pb, mb, sb, tb, S2, L, A, n0, T, M7, ⟨o2.trans h1, t2.1.trans h2, t2.2.trans h3⟩, B7, h4⟩)
 clear hx6 B5 M5 o2 t2 hne hsg hg hn1 hn88 hlo hb6 B6 B7 O7 M7 h1 h2 h3 h4 X1 X5 HO2 htb hx5
 go_wp2
 go_ret
 exact ⟨rfl, unhide HF⟩
set_option maxRecDepth 100000 in
set_option maxHeartbeats 2000000 in
theorem made_any {w0 w : World} {n kp gb : Nat} {Z : Nat → Prop} (hb : Below w0.heap.size w0 w) (hg : ETy w0) (hn1 : 1 ≤ n) (hn88 : n ≤ 88) (hkp : kp ≤ 64) (hlo : w0.heap.size ≤ gb) (hB : Blk w gb #[.pointer none, .pointer none, .pointer none, .pointer none, .pointer none] 30) (hZ : ∀ x, Z x → x < w.heap.size) : Calls Tryz.prog 5 #[.pointer (some ⟨gb, 0, none⟩), .int .i64 (kp : Int), .int .i64 (n : Int)] w fun e w' => e = .returned (.bool true) ∧ ∃ b, OpnV w0 b n kp gb Z (fun _ A n0 T => T = (fun _ => false) ∧ n0 = 0 ∧ A.length ≤ 100) w' := by
 have HNW := hide (new128 w)
 have HIN := hide (fun W => minitial_any n hn1 (by omega) W)
 have hpg : pgs n = 1 := by unfold pgs; omega
 rw [hpg] at HIN
 have HQ := hide (And.intro hb (And.intro hg (And.intro hn1 (And.intro hn88 (And.intro hkp (And.intro hlo (And.intro hB hZ)))))))
 have HPG := hide hpg
 clear hb hg hn1 hn88 hkp hlo hB hZ hpg
 go_enter Tryz.func5, Tryz.ntmps5
 go_wp2_with fail
 refine (unhide HNW).mono ?_
 rintro e x1 ⟨b, rfl, v, h1, h5, h6⟩
 have X1 := hide (And.intro h1 (And.intro h5 h6))
 clear h1 h5 h6 HNW
 go_wp2_with fail
 refine (unhide HIN _).mono ?_
 rintro e x2 ⟨vv, rfl, hR2, hb2⟩
 obtain ⟨h1, h5, h6⟩ := unhide X1
 have h12 := h1.only (Only.of_below (P := fun _ => False) hb2) (fun _ _ q => q)
 have h52 : Below w.heap.size w x2 := h5.trans (hb2.mono h5.size)
 obtain ⟨pv, cl, rfl, hSt⟩ := Strs.ownB (l := pgZ 1) hR2
 obtain ⟨gl, ol, rfl, hgl, -, cg⟩ := hSt 0 (by decide)
 rw [pgZ_at 1 0 (by decide), Nat.add_zero] at cg
 rw [show (pgZ 1).length = 1 from rfl]
 have hgf : ¬ Fd b v gl := fun q => by have := (h1.fd gl q).2; omega
 have HF := hide (format_any x2 w.heap.size b v _ h12 h52.size h6 (Nat.zero_le _) (Nat.zero_le _))
 rw [format_rs] at HF
 have X2 := hide (And.intro h12 (And.intro h52 (And.intro h6 (And.intro hgf cg))))
 clear h1 h5 h6 hR2 hb2 h12 h52 hgl hgf cg X1 HIN hSt
 go_wp2_with fail
 refine (unhide HF).mono ?_
 rintro e x3 ⟨rfl, v3, k1, k2, k3⟩
 obtain ⟨h1, h5, h6, hgf, cg⟩ := unhide X2
 have hb3 := DI.only h1 h5 k2
 have hS3 : Sane (rs L0 A0) := by
  have := layR_sane [(1, headB 0 [])] _ h6
  rw [format_rs] at this
  exact this
 have D3 : DI w x3 b (layS 19 (pgZ 1) 0) := ⟨v3, k1, hb3, hS3⟩
 have cg3 : x3.cell? ⟨gl, ol, none⟩ = some (.string (pgT 0 zb)) := by rw [World.cell?_of_block (a := ⟨gl, ol, none⟩) (k2.2 gl (World.block_lt_of_cell? x2 _ cg) hgf)]; exact cg
 have HWR := hide (writeD D3 (by show (prN 19 (pgZ 1) 0).length ≤ _; rw [prN_len]; omega) (by show (A0 ++ prA 19 0).length ≤ _; decide) ((19 + 0 : Nat) : Int) ((pgZ 1).getD 0 ByteArray.empty))
 obtain ⟨w1, w2⟩ := layS_write 19 (pgZ 1) 0 (by decide) (by rw [pgZ_at 1 0 (by decide)]; exact pgT_size 0 (by decide) zb zb_size)
 rw [w1, w2, pgZ_at 1 0 (by decide)] at HWR
 simp only [Nat.add_zero, Int.cast_ofNat_Int] at HWR
 generalize pgT 0 zb = tz at *
 clear h1 h5 h6 hgf cg hb3 hS3 D3 k1 k2 k3 w1 w2 X2 HF
 go_wp2_with fail
 refine (unhide HWR).mono ?_
 rintro e x4 ⟨rfl, D4⟩
 have HFL := hide (flushD D4 (by show (prN 19 (pgZ 1) 1).length ≤ _; rw [prN_len]; omega) (by show (A0 ++ prA 19 1).length ≤ _; decide))
 rw [show (0 + 1) = (pgZ 1).length from rfl, (layS_flush 19 (pgZ 1)).1, (layS_flush 19 (pgZ 1)).2] at HFL
 clear D4 HWR cg3
 go_wp2_with fail
 refine (unhide HFL).mono ?_
 rintro e x5 ⟨rfl, D5⟩
 obtain ⟨hb, hg, hn1, hn88, hkp, hlo, hB, hZ⟩ := unhide HQ
 have hb5 : Below w0.heap.size w0 x5 := hb.trans (D5.bel.mono hb.size)
 have F5 : DF w0 x5 b (rs (ldL 19 (pgZ 1)) (ldA 19 (pgZ 1))) (fun x => x = gb ∨ Z x) := DF.of D5 hb5 hb.size (fun x q => by rcases q with q | q; rw [q]; exact hB.lt; exact hZ x q)
 have B5 := hB.below D5.bel hB.lt
 have d0 : x5.cell? ⟨gb, 0, none⟩ = some (.pointer none) := B5.cell 0
 have f0 := B5.frozen 0
 obtain ⟨x6, hx6⟩ : ∃ q, x5.setCell ⟨gb, 0, none⟩ (.pointer (some ⟨b, 0, none⟩)) = q := ⟨_, rfl⟩
 have B6 : Blk x6 gb #[.pointer (some ⟨b, 0, none⟩), .pointer none, .pointer none, .pointer none, .pointer none] 30 := by rw [← hx6]; exact B5.set 0 _
 have O6 : Only (fun x => x = gb) x5 x6 := by rw [← hx6]; exact (Only.refl (fun x => x = gb) x5).setCell ⟨gb, 0, none⟩ _ (fun _ => rfl)
 have F6 := F5.poke (.inl rfl) hlo O6
 have hE6 : ETy x6 := hg.below (hb5.trans (O6.below hb5.size (fun k hk q => by omega))) hg.lt
 have hz : ∀ i, i < (pgZ 1).length → ((pgZ 1).getD i ByteArray.empty).size = 256 := fun i hi => by
  rw [pgZ_len] at hi
  rw [pgZ_at _ _ hi]
  exact pgT_size i (by omega) zb zb_size
 have hm : MS (ldL 19 (pgZ 1)) 19 n (fun _ => false) := by
  have := ms_zero 19 n (by omega) (by rw [unhide HPG]; decide)
  rwa [unhide HPG] at this
 have HOP := hide (opened_any (popenV F6 hE6 0 (by decide) (ld_len _ _) (ld_size 19 _ hz) (ld_head 19 _ (by decide)) (by rw [ldA_len, pgZ_len]; decide) kp hkp hm (fun _ A n0 T => T = (fun _ => false) ∧ n0 = 0 ∧ A.length ≤ 100) ⟨rfl, rfl, by rw [ldA_len, pgZ_len]; decide⟩) hg hn1 hn88 hlo _ _ _ _ B6)
 clear hb hg hn1 hn88 hkp hlo hB hZ hb5 F5 B5 B6 O6 F6 hE6 hz hm D5 HFL HQ HPG
 go_wp2_with fail
 refine (unhide HOP).mono ?_
 rintro e x7 ⟨rfl, hOp⟩
 have HX := hide hOp
 clear hOp HOP
 go_wp2
 go_ret
 exact ⟨rfl, b, unhide HX⟩
end Go.Proofs.YtiellebdliifdaaGreatDoor
