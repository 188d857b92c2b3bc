import Derived.Test.YtkkndlkelpdehaaGreatDoorMr32
import Derived.Test.YtkkndlkelpdehaaGreatDoorMr25
import Derived.Test.YtkkndlkelpdehaaGreatDoorMr21
namespace Go.Proofs.YtkkndlkelpdehaaGreatDoor
open Go.RowKit Go.Maps Go.Sort Go.Shelf
set_option maxHeartbeats 400000 in
theorem pick6_any (c : Int) (n : Nat) (hn : 0 < n) (hc : I64 c) (N : Int) (hN : N = (n : Int)) (w : World) :
    Calls Tryz.prog 5 #[.int .i64 c, .int .i64 N] w fun e w' => e = .returned (.int .i64 (pickP c n : Int)) ∧ w' = w := by
  subst hN
  obtain ⟨hc1, hc2⟩ := hc
  have hz : ((n : Int) == 0) = false := by simp; omega
  by_cases h : c < 0
  · have e1 : (-(c + 1)).tmod (n : Int) = (-(c + 1)) % (n : Int) := Int.tmod_eq_emod_of_nonneg (by omega)
    have hp : 0 ≤ (-(c + 1)) % (n : Int) := Int.emod_nonneg _ (by omega)
    have hl : (-(c + 1)) % (n : Int) < (n : Int) := Int.emod_lt_of_pos _ (by omega)
    have HP := hide (show (pickP c n : Int) = (-(c + 1)) % (n : Int) by rw [pickP, if_pos h]; omega)
    go_enter Tryz.func5, Tryz.ntmps5
    go_wp2
    go_ret
    exact ⟨by rw [unhide HP]; rfl, rfl⟩
  · have e1 : c.tmod (n : Int) = c % (n : Int) := Int.tmod_eq_emod_of_nonneg (by omega)
    have hp : 0 ≤ c % (n : Int) := Int.emod_nonneg _ (by omega)
    have hl : c % (n : Int) < (n : Int) := Int.emod_lt_of_pos _ (by omega)
    have HP := hide (show (pickP c n : Int) = c % (n : Int) by rw [pickP, if_neg h]; omega)
    go_enter Tryz.func5, Tryz.ntmps5
    go_wp2
    go_ret
    exact ⟨by rw [unhide HP]; rfl, rfl⟩
def homeP (c : Int) : Int := 19 + (pickP c 20 : Int)
theorem home_any (c : Int) (hc : I64 c) (w : World) : Calls Tryz.prog 6 #[.int .i64 c] w fun e w' => e = .returned (.int .i64 (homeP c)) ∧ w' = w := by
  have HP := hide (fun W => pick6_any c 20 (by decide) hc 20 rfl W)
  have hl := pickP_lt c 20 (by decide)
  have HH := hide (show homeP c = 19 + (pickP c 20 : Int) from rfl)
  generalize pickP c 20 = q at *
  generalize homeP c = r at *
  clear hc
  go_enter Tryz.func6, Tryz.ntmps6
  go_wp2_with (go_at_call 5; refine (unhide HP _).mono ?_; rintro e w' ⟨rfl, rfl⟩)
  go_ret
  refine ⟨?_, rfl⟩
  rw [unhide HH]
  go_num
/-- A sector of one byte. -/
def rep1 (x : Int) : ByteArray := strOfNums (List.replicate 256 x)
theorem rep1_size (x : Int) : (rep1 x).size = 256 := by rw [rep1, strOfNums_size, List.length_replicate]
def bytesB (s : ByteArray) : ByteArray := if s.size = 1 then rep1 ((nums s).getD 0 0) else s
theorem prtI_rep (x : Int) (t : Nat) (ht : t < 256) : (prtI (List.replicate 256 x) t).set t x = prtI (List.replicate 256 x) (t + 1) := by
  have h := prtI_step (List.replicate 256 x) t (by rw [List.length_replicate]; exact ht)
  have e : (List.replicate 256 x).getD t 0 = x := by rw [List.getD_eq_getElem?_getD, List.getElem?_replicate_of_lt ht]; rfl
  rw [e] at h
  exact h
set_option maxRecDepth 100000 in
set_option maxHeartbeats 1000000 in
theorem bytes6_any (s : ByteArray) (w : World) : Calls Tryz.prog 8 #[.string s] w fun e w' => e = .returned (.string (bytesB s)) ∧ Below w.heap.size w w' := by
  by_cases h1 : s.size = 1
  · have hne : ((s.size : Int) != 1) = false := by simp [h1]
    have hmk := run_make_u8 256 256 (by omega) (by omega) w
    have hbx := nums_bytes s 0
    have hix := index_str s 0 (by omega)
    have hsx : ∀ (h : 0 < s.size), ((s[0]'h).toNat : Int) = (nums s).getD 0 0 := fun h => by simp [nums, List.getD_eq_getElem?_getD, h]; rfl
    have HB := hide (show bytesB s = rep1 ((nums s).getD 0 0) from by rw [bytesB, if_pos h1])
    generalize (nums s).getD 0 0 = x at *
    have hL : (List.replicate 256 x).length = 256 := List.length_replicate ..
    have HST := hide (fun t ht => prtI_rep x t ht)
    have HR := hide (show rep1 x = strOfNums (List.replicate 256 x) from rfl)
    obtain ⟨Lx, hLx⟩ : ∃ Lx, Lx = List.replicate 256 x := ⟨_, rfl⟩
    rw [← hLx] at hL HST HR
    clear hLx
    have X0 := hide (show KeyInv w (prtI Lx 0) (w.alloc (.cells ((List.replicate 256 (0 : Int)).map (Value.int .u8)).toArray 5)) from ⟨by rw [prtI, hL]; exact arr_new w .u8 _ 5 _ rfl, (Below.refl _ _).alloc (Nat.le_refl _) _, by simp⟩)
    generalize hx : w.alloc (.cells ((List.replicate 256 (0 : Int)).map (Value.int .u8)).toArray 5) = x2 at *
    clear hx
    simp only [Int.cast_ofNat_Int] at hmk
    have i2 : (0 : Int) < (s.size : Int) := by omega
    have HSX := hide hsx
    clear h1 hsx
    go_enter Tryz.func8, Tryz.ntmps8
    go_wp2
    clear hmk
    go_loopw [4] (fun i wr => ∃ t : Nat, t ≤ 256 ∧ i = .int .i64 (t : Int) ∧ Hid (KeyInv w (prtI Lx t) wr)) (fun i _ => 256 - (intOf i).toNat)
    case atStart => exact ⟨0, by omega, rfl, X0⟩
    case round =>
      obtain ⟨t, ht, rfl, HI⟩ := hrel
      clear X0
      by_cases htn : t < 256
      · have hI := unhide HI
        have hlen : (prtI Lx t).length = 256 := by rw [prtI_len _ _ (by omega), hL]
        have c1 := hI.1.get0 t (by omega)
        have f1 := hI.1.free0 t (by omega)
        have HE := hide (unhide HST t htn)
        have HLEN := hide hlen
        generalize (prtI Lx t).getD t 0 = old at *
        clear hI hlen hL
        have i0 : 0 ≤ (t : Int) := by omega
        have i1 : (t : Int) < 256 := by omega
        go_wp2
        go_roundw
        case rel =>
          have h := (unhide HI).put t (by rw [unhide HLEN]; omega) _ (unhide HE)
          rw [← unhide HSX (by omega)] at h
          exact ⟨t + 1, by omega, by go_num, hide h⟩
        case measure => simp [intOf]; omega
      · have hI := unhide HI
        have hfin : prtI Lx t = Lx := by
          rw [prtI, List.take_of_length_le (by omega), hL, show 256 - t = 0 by omega]
          simp
        rw [hfin] at hI
        have hcv := run_convert_bytes_arg (P := Tryz.prog) wr 59 5 Tryz.underlying59 Tryz.underlying5 w.heap.size 0 256 256 Lx hL (fun i hi => hI.1.get i (by omega)) 9 Tryz.underlying9
        have HBW := hide hI.2.1
        clear hI HI hfin
        have e1 : ¬ (t : Int) < 256 := by omega
        go_wp2
        go_ret
        rw [unhide HB, unhide HR]
        exact ⟨rfl, unhide HBW⟩
  · have hne : ((s.size : Int) != 1) = true := by simp; omega
    have HB := hide (show bytesB s = s from by rw [bytesB, if_neg h1])
    clear h1
    go_enter Tryz.func8, Tryz.ntmps8
    go_wp2
    go_ret
    rw [unhide HB]
    exact ⟨rfl, Below.refl _ _⟩
def freshP (keep : Nat) : PS := { s := rs L0 A0, nx := 1, jl := false, op := false, tx := [], keep := keep, h := [], hits := 0, mis := 0, lost := false }
/-- A pool over a disk at rest. -/
def restP (L : List ByteArray) (A : List (Nat × Nat)) (nx keep : Nat) : PS := { s := rs L A, nx := nx, jl := false, op := false, tx := [], keep := keep, h := [], hits := 0, mis := 0, lost := false }
theorem POk.pk {w0 w1 w' : World} {b jb pb bw bv keep nx : Nat} {s : DSt} {X : Nat → Prop} (h : JK w0 w1 b jb s nx false X) (hk : keep ≤ 64) (hP : POk b keep w1 (some ⟨jb, 0, none⟩) pb bw bv w') : PK w0 w' b jb pb { s := s, nx := nx, jl := false, op := false, tx := [], keep := keep, h := [], hits := 0, mis := 0, lost := false } X := by
  obtain ⟨a1, a2, a3, a4, a5, a6, a7, a8⟩ := hP
  have hb := h.bel.size
  refine ⟨bw, bv, .slice none 0 0, h.more a8 _ (fun x hx => ?_), a1, a2, ⟨⟨[], List.Perm.refl _, a3⟩, ⟨rfl, .inl ⟨rfl, rfl⟩⟩, fun p hp => by cases hp⟩, a7, by omega, by omega, by omega, fun x hx q => ?_, Nat.zero_le _, hk, Nat.zero_le _, fun p hp => by cases hp⟩
  · rcases hx with q | q
    · exact .inl q
    · refine .inr ?_
      rcases q with q | q | q | q
      · rw [q]; exact ⟨a4, a1.lt⟩
      · rw [q]; exact ⟨a5, a2.lt⟩
      · rw [q]; exact ⟨a6, a3.lt⟩
      · simp [Value.ownBlock] at q
  · have := h.lt x hx
    rcases q with q | q | q | q
    · omega
    · omega
    · omega
    · simp [Value.ownBlock] at q
set_option maxRecDepth 100000 in
set_option maxHeartbeats 1000000 in
theorem pfresh_any (keep : Nat) (hk : keep ≤ 64) (w : World) (hg : ETy w) : Calls Tryz.prog 4 #[.int .i64 (keep : Int)] w fun e w' => ∃ b jb pb, e = .returned (.tuple #[.pointer (some ⟨b, 0, none⟩), .pointer (some ⟨pb, 0, none⟩)]) ∧ PK w w' b jb pb (freshP keep) (fun _ => False) := by
  have HNW := hide (new128 w)
  have HG := hide hg
  clear hg
  go_enter Tryz.func4, Tryz.ntmps4
  go_wp2_with fail
  refine (unhide HNW).mono ?_
  rintro e x1 ⟨b, rfl, v, h1, h5, h6⟩
  have HF := hide (format_any x1 w.heap.size b v _ h1 h5.size h6 (Nat.zero_le _) (Nat.zero_le _))
  rw [format_rs] at HF
  have H1 := hide (And.intro h1 (And.intro h5 h6))
  clear h1 h5 h6 HNW
  go_wp2_with fail
  refine (unhide HF).mono ?_
  rintro e x2 ⟨rfl, v2, k1, k2, k3⟩
  have hb2 := DI.only (unhide H1).1 (unhide H1).2.1 k2
  have hS2 : Sane (rs L0 A0) := by
    have := layR_sane [(1, headB 0 [])] _ (unhide H1).2.2
    rw [format_rs] at this
    exact this
  have hO := open_clear k1 ((unhide HG).below hb2 (unhide HG).lt) hb2.size hS2 0 (by decide) (by rw [L0_len]; decide) head0 (by decide)
  have HO := hide (popen_any x2 b keep hk (fun jp ag er w1 => er = 0 ∧ ∃ jb, jp = some ⟨jb, 0, none⟩ ∧ JK w w1 b jb (rs L0 A0) 1 false (fun _ => False)) (hO.mono (fun e w1 q => by
    obtain ⟨jb, rfl, hJ⟩ := q
    exact ⟨_, _, _, rfl, rfl, jb, rfl, JI.jk (JNew.ji k1 hb2 hS2 hJ)⟩)))
  clear k1 k2 k3 hb2 hS2 HF H1 hO
  go_wp2_with fail
  refine (unhide HO).mono ?_
  rintro e x3 ⟨jp, ag, er, w1, ⟨rfl, jb, rfl, hJ⟩, q | ⟨_, pb, bw, bv, rfl, hP⟩⟩
  · exact absurd rfl q.1
  have H3 := hide (POk.pk hJ hk hP)
  clear hJ hP HO
  go_wp2
  go_ret2
  exact ⟨b, jb, pb, rfl, unhide H3⟩
end Go.Proofs.YtkkndlkelpdehaaGreatDoor

namespace Go.Proofs.YtkkndlkelpdehaaGreatDoor
open Go.RowKit Go.Maps Go.Sort Go.Shelf
def cK (l : List Int) (i : Nat) : Int := 19 + (pickP (l.getD i 0) 109 : Int)
def cB (d : Int) (i : Nat) : ByteArray := rep1 (97 + (i : Int) + d)
def cTx (l : List Int) (d : Int) : Nat → Tx
  | 0 => []
  | k + 1 => txPut (cK l k) (cB d k) (cTx l d k)
def cSec (l : List Int) (d : Int) (M : List ByteArray) : Nat → List ByteArray
  | 0 => M
  | k + 1 => (cSec l d M k).set (cK l k).toNat (cB d k)
theorem cSec_len (l : List Int) (d : Int) (M : List ByteArray) : ∀ k, (cSec l d M k).length = M.length
  | 0 => rfl
  | k + 1 => by rw [cSec, List.length_set, cSec_len l d M k]
theorem cTx_srt (l : List Int) (d : Int) : ∀ k, Srt (cTx l d k)
  | 0 => List.Pairwise.nil
  | k + 1 => srt_put (cTx_srt l d k) _ _
theorem cTx_len (l : List Int) (d : Int) : ∀ k, (cTx l d k).length ≤ k
  | 0 => Nat.le_refl _
  | k + 1 => by
    rw [cTx, put_len (cTx_srt l d k)]
    have := cTx_len l d k
    split <;> omega
theorem cK_lo (l : List Int) (i : Nat) : 19 ≤ cK l i ∧ cK l i < 128 := by
  have := pickP_lt (l.getD i 0) 109 (by decide)
  unfold cK
  omega
/-- A transaction of some writes is open. -/
def cS (S : PS) (l : List Int) (d : Int) (k : Nat) : PS := { S with op := true, tx := cTx l d k }
theorem cS_step (S : PS) (l : List Int) (d : Int) (k : Nat) (hk : k < 16) (hl : S.lost = false) (hn : S.s.last.length = 128) : refP (cS S l d k) (cK l k) (cB d k) = 0 ∧ writeP (cS S l d k) (cK l k) (cB d k) = cS S l d (k + 1) := by
  have h0 : refP (cS S l d k) (cK l k) (cB d k) = 0 := by
    obtain ⟨a1, a2⟩ := cK_lo l k
    have e1 : hasB (cS S l d k).s (cK l k) = true := by simp [hasB, cS, hn]; omega
    have e2 : roomB (cS S l d k) (cK l k) = true := by
      have := cTx_len l d k
      unfold roomB
      rw [Bool.or_eq_true]
      right
      exact decide_eq_true (by show ((cTx l d k).length : Int) < 16; omega)
    unfold refP
    rw [if_neg (by rw [e1]; simp), if_neg (by omega), if_neg (by rw [cB, rep1_size]; simp), if_neg (by simp [cS]), if_neg (by simp [cS, hl]), if_pos e2]
  refine ⟨h0, ?_⟩
  unfold writeP
  rw [if_pos h0]
  rfl
theorem strOf_one (y : Int) (h : 0 ≤ y ∧ y < 256) : bytesB (strOfNums [y]) = rep1 y := by
  have h1 : (strOfNums [y]).size = 1 := by rw [strOfNums_size]; rfl
  rw [bytesB, if_pos h1, nums_strOfNums _ (bytes_of (l := [y]) (fun x hx => by simp at hx; omega))]
  rfl
theorem strs_seti (M : List ByteArray) (k : Nat) (t : ByteArray) : (strs M).toArray.setIfInBounds k (.string t) = (strs (M.set k t)).toArray := by
  simp [strs]
theorem conv_one (W : World) (y : Int) : (convert 59 9 (.slice (some ⟨W.heap.size, 0, none⟩) 1 1)).run Tryz.prog (W.alloc (.cells #[.int .u8 y] 5)) = .ok (.string (strOfNums [y])) (W.alloc (.cells #[.int .u8 y] 5)) :=
  run_convert_bytes_arg (P := Tryz.prog) _ 59 5 Tryz.underlying59 Tryz.underlying5 W.heap.size 0 1 1 [y] rfl (fun i hi => by
    have : i = 0 := by omega
    subst this
    rw [(Blk.new W 5 #[.int .u8 y]).cell]
    rfl) 9 Tryz.underlying9
def CtI (w0 w : World) (b jb pb : Nat) (S : PS) (X : Nat → Prop) (g : Nat) (M : List ByteArray) (l : List Int) (d : Int) (k : Nat) (wr : World) : Prop :=
  PK w0 wr b jb pb (cS S l d k) X ∧ Blk wr g (strs (cSec l d M k)).toArray 9 ∧ Only (fun x => ¬ X x ∨ x = g) w wr
end Go.Proofs.YtkkndlkelpdehaaGreatDoor

namespace Go.Proofs.YtkkndlkelpdehaaGreatDoor
open Go.RowKit Go.Maps Go.Sort Go.Shelf
theorem only1 (x : World) (g o : Nat) (a : Value) : Only (fun z => z = g) x (x.setCell ⟨g, o, none⟩ a) := (Only.refl _ x).setCell ⟨g, o, none⟩ a (fun _ => rfl)
theorem only3 (x : World) (g : Nat) (a b c : Value) : Only (fun z => z = g) x (((x.setCell ⟨g, 0, none⟩ a).setCell ⟨g, 1, none⟩ b).setCell ⟨g, 2, none⟩ c) :=
  ((only1 x g 0 a).trans (only1 (x.setCell ⟨g, 0, none⟩ a) g 1 b) (fun _ _ q => q)).trans (only1 ((x.setCell ⟨g, 0, none⟩ a).setCell ⟨g, 1, none⟩ b) g 2 c) (fun _ _ q => q)
set_option maxRecDepth 100000 in
set_option maxHeartbeats 1000000 in
theorem stats_any (w : World) (base pb b jb : Nat) (op : Bool) (bw keep bv : Nat) (ov : Value) (hits mis : Int) (lost : Bool) (n : Nat) (xs : List Value) (hB : Blk w pb (Pcs b jb op bw keep bv ov hits mis lost) 58) (H : w.ownsRow base 3 1 ov n xs) :
    Calls Tryz.prog 16 #[.pointer (some ⟨pb, 0, none⟩)] w fun e w' => e = .returned (.agg #[.int .i64 hits, .int .i64 mis, .int .i64 (n : Int)]) ∧ Below w.heap.size w w' := by
  obtain ⟨x, hx⟩ : ∃ x, w.alloc (.cells #[.int .i64 0, .int .i64 0, .int .i64 0] 45) = x := ⟨_, rfl⟩
  have hb : Below w.heap.size w x := by rw [← hx]; exact (Below.refl _ w).alloc (Nat.le_refl _) _
  have hO : Only (fun _ => False) w x := Only.of_below hb
  have hS1 : Blk x pb (Pcs b jb op bw keep bv ov hits mis lost) 58 := hB.only hO (fun q => q)
  have hS2 := owns_only H hO (fun _ _ q => q)
  have hS3 : Blk x w.heap.size #[.int .i64 0, .int .i64 0, .int .i64 0] 45 := by rw [← hx]; exact Blk.new w _ _
  have HPB := hide (show pb < w.heap.size from hB.lt)
  have HOV := hide (fun z (hz : ov.ownBlock = some z) => (row_lt H hz).1)
  have HX := hide hx
  have HB := hide hb
  clear hx hb hO hB H
  go_enter Tryz.func16, Tryz.ntmps16
  go_wp2_with fail
  rw [unhide HX]
  have HGH := hide (show w.heap.size = w.heap.size from rfl)
  obtain ⟨gh, hgh⟩ : ∃ g, w.heap.size = g := ⟨_, rfl⟩
  rw [hgh]
  rw [hgh] at hS3
  have hS0 : Blk x.drew pb (Pcs b jb op bw keep bv ov hits mis lost) 58 ∧ x.drew.ownsRow base 3 1 ov n xs := ⟨hS1, hS2⟩
  refine wp_region_held_drew (S := fun w' => Blk w' pb (Pcs b jb op bw keep bv ov hits mis lost) 58 ∧ w'.ownsRow base 3 1 ov n xs) (by kernel_rfl) hS0 ?_
  intro hS
  have B3 : Blk x.drew gh #[.int .i64 0, .int .i64 0, .int .i64 0] 45 := hS3
  have HXD := hide (show Below w.heap.size w x.drew from (unhide HB).drew)
  clear hS0 hS1 hS2 hS3
  generalize x.drew = xd at hS B3 HXD ⊢
  refine wpAnyH_takeD 0 (some 3) (.pointer (some ⟨pb, 0, none⟩)) rfl rfl (by kernel_rfl) (by kernel_rfl) (by kernel_rfl) (fun _ _ _ h => h) (Or.inl ⟨by rfl, fun w hSw => by go_simp⟩) hS ?_
  simp only [Act.put, List.setIfInBounds_toArray, List.set_cons_zero, List.set_cons_succ]
  refine wpAnyH_takeD 1 (some 4) (.pointer (some ⟨pb, 0, none⟩)) rfl rfl (by kernel_rfl) (by kernel_rfl) (by kernel_rfl) (fun _ _ _ h => h) (Or.inl ⟨by rfl, fun w hSw => by go_simp⟩) hS ?_
  simp only [Act.put, List.setIfInBounds_toArray, List.set_cons_zero, List.set_cons_succ]
  refine wpAnyH_takeD 2 (some 5) (.pointer (some ⟨pb, 7, none⟩)) rfl rfl (by kernel_rfl) (by kernel_rfl) (by kernel_rfl) (fun _ _ _ h => h) (Or.inl ⟨by rfl, fun w hSw => by go_simp⟩) hS ?_
  simp only [Act.put, List.setIfInBounds_toArray, List.set_cons_zero, List.set_cons_succ]
  refine wpAnyH_takeD 3 (some 6) (.int .i64 hits) rfl rfl (by kernel_rfl) (by kernel_rfl) (by kernel_rfl) (fun _ _ _ h => h) (Or.inl ⟨by rfl, fun w hSw => by have hq : w.cell? ⟨pb, 7, none⟩ = some (.int .i64 hits) := hSw.1.cell 7; go_simp⟩) hS ?_
  simp only [Act.put, List.setIfInBounds_toArray, List.set_cons_zero, List.set_cons_succ]
  refine wpAnyH_takeD 4 (some 7) (.pointer (some ⟨pb, 0, none⟩)) rfl rfl (by kernel_rfl) (by kernel_rfl) (by kernel_rfl) (fun _ _ _ h => h) (Or.inl ⟨by rfl, fun w hSw => by go_simp⟩) hS ?_
  simp only [Act.put, List.setIfInBounds_toArray, List.set_cons_zero, List.set_cons_succ]
  refine wpAnyH_takeD 5 (some 8) (.pointer (some ⟨pb, 0, none⟩)) rfl rfl (by kernel_rfl) (by kernel_rfl) (by kernel_rfl) (fun _ _ _ h => h) (Or.inl ⟨by rfl, fun w hSw => by go_simp⟩) hS ?_
  simp only [Act.put, List.setIfInBounds_toArray, List.set_cons_zero, List.set_cons_succ]
  refine wpAnyH_takeD 6 (some 9) (.pointer (some ⟨pb, 8, none⟩)) rfl rfl (by kernel_rfl) (by kernel_rfl) (by kernel_rfl) (fun _ _ _ h => h) (Or.inl ⟨by rfl, fun w hSw => by go_simp⟩) hS ?_
  simp only [Act.put, List.setIfInBounds_toArray, List.set_cons_zero, List.set_cons_succ]
  refine wpAnyH_takeD 7 (some 10) (.int .i64 mis) rfl rfl (by kernel_rfl) (by kernel_rfl) (by kernel_rfl) (fun _ _ _ h => h) (Or.inl ⟨by rfl, fun w hSw => by have hq : w.cell? ⟨pb, 8, none⟩ = some (.int .i64 mis) := hSw.1.cell 8; go_simp⟩) hS ?_
  simp only [Act.put, List.setIfInBounds_toArray, List.set_cons_zero, List.set_cons_succ]
  refine wpAnyH_takeD 8 (some 11) (.pointer (some ⟨pb, 0, none⟩)) rfl rfl (by kernel_rfl) (by kernel_rfl) (by kernel_rfl) (fun _ _ _ h => h) (Or.inl ⟨by rfl, fun w hSw => by go_simp⟩) hS ?_
  simp only [Act.put, List.setIfInBounds_toArray, List.set_cons_zero, List.set_cons_succ]
  refine wpAnyH_takeD 9 (some 12) (.pointer (some ⟨pb, 0, none⟩)) rfl rfl (by kernel_rfl) (by kernel_rfl) (by kernel_rfl) (fun _ _ _ h => h) (Or.inl ⟨by rfl, fun w hSw => by go_simp⟩) hS ?_
  simp only [Act.put, List.setIfInBounds_toArray, List.set_cons_zero, List.set_cons_succ]
  refine wpAnyH_takeD 10 (some 13) (.pointer (some ⟨pb, 4, none⟩)) rfl rfl (by kernel_rfl) (by kernel_rfl) (by kernel_rfl) (fun _ _ _ h => h) (Or.inl ⟨by rfl, fun w hSw => by go_simp⟩) hS ?_
  simp only [Act.put, List.setIfInBounds_toArray, List.set_cons_zero, List.set_cons_succ]
  refine wpAnyH_ready (rs := [11]) (by kernel_rfl) (by simp) ?_
  refine AllReadyH.cons rfl (fun K hK => ?_) AllReadyH.nil
  simp only [List.getElem_toArray, List.getElem_cons_succ, List.getElem_cons_zero]
  go_simp
  refine (hcount_any _ base pb b jb op bw keep bv ov hits mis lost n xs hS.1 hS.2).mono ?_
  rintro e w1 ⟨rfl, hw1⟩
  subst w1
  refine hK.out _ _ hS (fun hS => ?_)
  clear hK K
  refine wpAnyH_takeD 12 (some 15) (.agg #[.int .i64 hits, .int .i64 mis, .int .i64 (n : Int)]) rfl rfl (by kernel_rfl) (by kernel_rfl) (by kernel_rfl) (fun _ _ _ h => h) (Or.inl ⟨by rfl, fun w hSw => by go_simp⟩) hS ?_
  simp only [Act.put, List.setIfInBounds_toArray, List.set_cons_zero, List.set_cons_succ]
  have c0 : xd.cell? ⟨gh, 0, none⟩ = some (.int .i64 0) := B3.cell 0
  have c1 : xd.cell? ⟨gh, 1, none⟩ = some (.int .i64 0) := B3.cell 1
  have c2 : xd.cell? ⟨gh, 2, none⟩ = some (.int .i64 0) := B3.cell 2
  have f0 := B3.frozen 0
  have f1 := B3.frozen 1
  have f2 := B3.frozen 2
  obtain ⟨y, hy⟩ : ∃ y, ((xd.setCell ⟨gh, 0, none⟩ (.int .i64 hits)).setCell ⟨gh, 1, none⟩ (.int .i64 mis)).setCell ⟨gh, 2, none⟩ (.int .i64 (n : Int)) = y := ⟨_, rfl⟩
  have By : Blk y gh #[.int .i64 hits, .int .i64 mis, .int .i64 (n : Int)] 45 := by rw [← hy]; exact ((B3.set 0 _).set 1 _).set 2 _
  have hOy : Only (fun z => z = gh) xd y := by rw [← hy]; exact only3 xd gh _ _ _
  have hSy : Blk y pb (Pcs b jb op bw keep bv ov hits mis lost) 58 ∧ y.ownsRow base 3 1 ov n xs := ⟨hS.1.only hOy (fun q => by have := unhide HPB; omega), owns_only hS.2 hOy (fun z hz q => by have := unhide HOV z hz; omega)⟩
  have HY := hide (And.intro By (And.intro hOy hy))
  clear B3 By hOy
  refine wpAnyH_ready (rs := [13]) (by kernel_rfl) (by simp) ?_
  refine AllReadyH.cons rfl (fun K hK => ?_) AllReadyH.nil
  simp only [List.getElem_toArray, List.getElem_cons_succ, List.getElem_cons_zero]
  go_simp
  refine hK.out _ _ hSy (fun hS => ?_)
  clear hK K
  refine wpAnyH_done (by kernel_rfl) ?_ _
  go_wp2
  have hld := load_blk 45 _ (unhide HY).1 Tryz.underlying45 rfl (by kernel_rfl)
  refine bodyPost_ret (v := .agg #[.int .i64 hits, .int .i64 mis, .int .i64 (n : Int)]) (results_cell rfl _ _ _ ⟨gh, 0, none⟩ rfl _ hld) rfl ⟨rfl, ?_⟩
  have hbw := unhide HXD
  rw [← hgh]
  exact hbw.trans ((unhide HY).2.1.below (by exact hbw.size) (fun z hz q => by omega))
end Go.Proofs.YtkkndlkelpdehaaGreatDoor
