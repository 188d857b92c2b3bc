import Derived.Test.YtnkaooafenakdaaGreatDoorMr44
import Derived.Test.YtnkaooafenakdaaGreatDoorMr32
import Derived.Test.YtnkaooafenakdaaGreatDoorMr27
namespace Go.Proofs.YtnkaooafenakdaaGreatDoor
open Go.RowKit Go.Maps Go.Sort Go.Shelf
set_option maxHeartbeats 400000 in
theorem pick6_any (c : Int) (n : Nat) (hn : 0 < n) (hc : I64 c) (N : Int) (hN : N = (n : Int)) (w : World) :
    Calls Tryz.prog 10 #[.int .i64 c, .int .i64 N] w fun e w' => e = .returned (.int .i64 (pickP c n : Int)) ∧ w' = w := by
  subst hN
  obtain ⟨hc1, hc2⟩ := hc
  have hz : ((n : Int) == 0) = false := by simp; omega
  by_cases h : c < 0
  · have e1 : (-(c + 1)).tmod (n : Int) = (-(c + 1)) % (n : Int) := Int.tmod_eq_emod_of_nonneg (by omega)
    have hp : 0 ≤ (-(c + 1)) % (n : Int) := Int.emod_nonneg _ (by omega)
    have hl : (-(c + 1)) % (n : Int) < (n : Int) := Int.emod_lt_of_pos _ (by omega)
    have HP := hide (show (pickP c n : Int) = (-(c + 1)) % (n : Int) by rw [pickP, if_pos h]; omega)
    go_enter Tryz.func10, Tryz.ntmps10
    go_wp2
    go_ret
    exact ⟨by rw [unhide HP]; rfl, rfl⟩
  · have e1 : c.tmod (n : Int) = c % (n : Int) := Int.tmod_eq_emod_of_nonneg (by omega)
    have hp : 0 ≤ c % (n : Int) := Int.emod_nonneg _ (by omega)
    have hl : c % (n : Int) < (n : Int) := Int.emod_lt_of_pos _ (by omega)
    have HP := hide (show (pickP c n : Int) = c % (n : Int) by rw [pickP, if_neg h]; omega)
    go_enter Tryz.func10, Tryz.ntmps10
    go_wp2
    go_ret
    exact ⟨by rw [unhide HP]; rfl, rfl⟩
def homeP (c : Int) : Int := 19 + (pickP c 20 : Int)
theorem home_any (c : Int) (hc : I64 c) (w : World) : Calls Tryz.prog 17 #[.int .i64 c] w fun e w' => e = .returned (.int .i64 (homeP c)) ∧ w' = w := by
  have HP := hide (fun W => pick6_any c 20 (by decide) hc 20 rfl W)
  have hl := pickP_lt c 20 (by decide)
  have HH := hide (show homeP c = 19 + (pickP c 20 : Int) from rfl)
  generalize pickP c 20 = q at *
  generalize homeP c = r at *
  clear hc
  go_enter Tryz.func17, Tryz.ntmps17
  go_wp2_with (go_at_call 10; refine (unhide HP _).mono ?_; rintro e w' ⟨rfl, rfl⟩)
  go_ret
  refine ⟨?_, rfl⟩
  rw [unhide HH]
  go_num
/-- A sector of one byte. -/
def rep1 (x : Int) : ByteArray := strOfNums (List.replicate 256 x)
theorem rep1_size (x : Int) : (rep1 x).size = 256 := by rw [rep1, strOfNums_size, List.length_replicate]
def bytesB (s : ByteArray) : ByteArray := if s.size = 1 then rep1 ((nums s).getD 0 0) else s
theorem prtI_rep (x : Int) (t : Nat) (ht : t < 256) : (prtI (List.replicate 256 x) t).set t x = prtI (List.replicate 256 x) (t + 1) := by
  have h := prtI_step (List.replicate 256 x) t (by rw [List.length_replicate]; exact ht)
  have e : (List.replicate 256 x).getD t 0 = x := by rw [List.getD_eq_getElem?_getD, List.getElem?_replicate_of_lt ht]; rfl
  rw [e] at h
  exact h
set_option maxRecDepth 100000 in
set_option maxHeartbeats 1000000 in
theorem bytes6_any (s : ByteArray) (w : World) : Calls Tryz.prog 13 #[.string s] w fun e w' => e = .returned (.string (bytesB s)) ∧ Below w.heap.size w w' := by
  by_cases h1 : s.size = 1
  · have hne : ((s.size : Int) != 1) = false := by simp [h1]
    have hmk := run_make_u8 256 256 (by omega) (by omega) w
    have hbx := nums_bytes s 0
    have hix := index_str s 0 (by omega)
    have hsx : ∀ (h : 0 < s.size), ((s[0]'h).toNat : Int) = (nums s).getD 0 0 := fun h => by simp [nums, List.getD_eq_getElem?_getD, h]; rfl
    have HB := hide (show bytesB s = rep1 ((nums s).getD 0 0) from by rw [bytesB, if_pos h1])
    generalize (nums s).getD 0 0 = x at *
    have hL : (List.replicate 256 x).length = 256 := List.length_replicate ..
    have HST := hide (fun t ht => prtI_rep x t ht)
    have HR := hide (show rep1 x = strOfNums (List.replicate 256 x) from rfl)
    obtain ⟨Lx, hLx⟩ : ∃ Lx, Lx = List.replicate 256 x := ⟨_, rfl⟩
    rw [← hLx] at hL HST HR
    clear hLx
    have X0 := hide (show KeyInv w (prtI Lx 0) (w.alloc (.cells ((List.replicate 256 (0 : Int)).map (Value.int .u8)).toArray 5)) from ⟨by rw [prtI, hL]; exact arr_new w .u8 _ 5 _ rfl, (Below.refl _ _).alloc (Nat.le_refl _) _, by simp⟩)
    generalize hx : w.alloc (.cells ((List.replicate 256 (0 : Int)).map (Value.int .u8)).toArray 5) = x2 at *
    clear hx
    simp only [Int.cast_ofNat_Int] at hmk
    have i2 : (0 : Int) < (s.size : Int) := by omega
    have HSX := hide hsx
    clear h1 hsx
    go_enter Tryz.func13, Tryz.ntmps13
    go_wp2
    clear hmk
    go_loopw [4] (fun i wr => ∃ t : Nat, t ≤ 256 ∧ i = .int .i64 (t : Int) ∧ Hid (KeyInv w (prtI Lx t) wr)) (fun i _ => 256 - (intOf i).toNat)
    case atStart => exact ⟨0, by omega, rfl, X0⟩
    case round =>
      obtain ⟨t, ht, rfl, HI⟩ := hrel
      clear X0
      by_cases htn : t < 256
      · have hI := unhide HI
        have hlen : (prtI Lx t).length = 256 := by rw [prtI_len _ _ (by omega), hL]
        have c1 := hI.1.get0 t (by omega)
        have f1 := hI.1.free0 t (by omega)
        have HE := hide (unhide HST t htn)
        have HLEN := hide hlen
        generalize (prtI Lx t).getD t 0 = old at *
        clear hI hlen hL
        have i0 : 0 ≤ (t : Int) := by omega
        have i1 : (t : Int) < 256 := by omega
        go_wp2
        go_roundw
        case rel =>
          have h := (unhide HI).put t (by rw [unhide HLEN]; omega) _ (unhide HE)
          rw [← unhide HSX (by omega)] at h
          exact ⟨t + 1, by omega, by go_num, hide h⟩
        case measure => simp [intOf]; omega
      · have hI := unhide HI
        have hfin : prtI Lx t = Lx := by
          rw [prtI, List.take_of_length_le (by omega), hL, show 256 - t = 0 by omega]
          simp
        rw [hfin] at hI
        have hcv := run_convert_bytes_arg (P := Tryz.prog) wr 97 5 Tryz.underlying97 Tryz.underlying5 w.heap.size 0 256 256 Lx hL (fun i hi => hI.1.get i (by omega)) 9 Tryz.underlying9
        have HBW := hide hI.2.1
        clear hI HI hfin
        have e1 : ¬ (t : Int) < 256 := by omega
        go_wp2
        go_ret
        rw [unhide HB, unhide HR]
        exact ⟨rfl, unhide HBW⟩
  · have hne : ((s.size : Int) != 1) = true := by simp; omega
    have HB := hide (show bytesB s = s from by rw [bytesB, if_neg h1])
    clear h1
    go_enter Tryz.func13, Tryz.ntmps13
    go_wp2
    go_ret
    rw [unhide HB]
    exact ⟨rfl, Below.refl _ _⟩
def freshP (keep : Nat) : PS := { s := rs L0 A0, nx := 1, jl := false, op := false, tx := [], keep := keep, h := [], hits := 0, mis := 0, lost := false }
/-- A pool over a disk at rest. -/
def restP (L : List ByteArray) (A : List (Nat × Nat)) (nx keep : Nat) : PS := { s := rs L A, nx := nx, jl := false, op := false, tx := [], keep := keep, h := [], hits := 0, mis := 0, lost := false }
theorem POk.pk {w0 w1 w' : World} {b jb pb bw bv keep nx : Nat} {s : DSt} {X : Nat → Prop} (h : JK w0 w1 b jb s nx false X) (hk : keep ≤ 64) (hP : POk b keep w1 (some ⟨jb, 0, none⟩) pb bw bv w') : PK w0 w' b jb pb { s := s, nx := nx, jl := false, op := false, tx := [], keep := keep, h := [], hits := 0, mis := 0, lost := false } X := by
  obtain ⟨a1, a2, a3, a4, a5, a6, a7, a8⟩ := hP
  have hb := h.bel.size
  refine ⟨bw, bv, .slice none 0 0, h.more a8 _ (fun x hx => ?_), a1, a2, ⟨⟨[], List.Perm.refl _, a3⟩, ⟨rfl, .inl ⟨rfl, rfl⟩⟩, fun p hp => by cases hp⟩, a7, by omega, by omega, by omega, fun x hx q => ?_, Nat.zero_le _, hk, Nat.zero_le _, fun p hp => by cases hp⟩
  · rcases hx with q | q
    · exact .inl q
    · refine .inr ?_
      rcases q with q | q | q | q
      · rw [q]; exact ⟨a4, a1.lt⟩
      · rw [q]; exact ⟨a5, a2.lt⟩
      · rw [q]; exact ⟨a6, a3.lt⟩
      · simp [Value.ownBlock] at q
  · have := h.lt x hx
    rcases q with q | q | q | q
    · omega
    · omega
    · omega
    · simp [Value.ownBlock] at q
set_option maxRecDepth 100000 in
set_option maxHeartbeats 1000000 in
theorem pfresh_any (keep : Nat) (hk : keep ≤ 64) (w : World) (hg : ETy w) : Calls Tryz.prog 9 #[.int .i64 (keep : Int)] w fun e w' => ∃ b jb pb, e = .returned (.tuple #[.pointer (some ⟨b, 0, none⟩), .pointer (some ⟨pb, 0, none⟩)]) ∧ PK w w' b jb pb (freshP keep) (fun _ => False) := by
  have HNW := hide (new128 w)
  have HG := hide hg
  clear hg
  go_enter Tryz.func9, Tryz.ntmps9
  go_wp2_with fail
  refine (unhide HNW).mono ?_
  rintro e x1 ⟨b, rfl, v, h1, h5, h6⟩
  have HF := hide (format_any x1 w.heap.size b v _ h1 h5.size h6 (Nat.zero_le _) (Nat.zero_le _))
  rw [format_rs] at HF
  have H1 := hide (And.intro h1 (And.intro h5 h6))
  clear h1 h5 h6 HNW
  go_wp2_with fail
  refine (unhide HF).mono ?_
  rintro e x2 ⟨rfl, v2, k1, k2, k3⟩
  have hb2 := DI.only (unhide H1).1 (unhide H1).2.1 k2
  have hS2 : Sane (rs L0 A0) := by
    have := layR_sane [(1, headB 0 [])] _ (unhide H1).2.2
    rw [format_rs] at this
    exact this
  have hO := open_clear k1 ((unhide HG).below hb2 (unhide HG).lt) hb2.size hS2 0 (by decide) (by rw [L0_len]; decide) head0 (by decide)
  have HO := hide (popen_any x2 b keep hk (fun jp ag er w1 => er = 0 ∧ ∃ jb, jp = some ⟨jb, 0, none⟩ ∧ JK w w1 b jb (rs L0 A0) 1 false (fun _ => False)) (hO.mono (fun e w1 q => by
    obtain ⟨jb, rfl, hJ⟩ := q
    exact ⟨_, _, _, rfl, rfl, jb, rfl, JI.jk (JNew.ji k1 hb2 hS2 hJ)⟩)))
  clear k1 k2 k3 hb2 hS2 HF H1 hO
  go_wp2_with fail
  refine (unhide HO).mono ?_
  rintro e x3 ⟨jp, ag, er, w1, ⟨rfl, jb, rfl, hJ⟩, q | ⟨_, pb, bw, bv, rfl, hP⟩⟩
  · exact absurd rfl q.1
  have H3 := hide (POk.pk hJ hk hP)
  clear hJ hP HO
  go_wp2
  go_ret2
  exact ⟨b, jb, pb, rfl, unhide H3⟩
end Go.Proofs.YtnkaooafenakdaaGreatDoor

namespace Go.Proofs.YtnkaooafenakdaaGreatDoor
open Go.RowKit Go.Maps Go.Sort Go.Shelf
def cK (l : List Int) (i : Nat) : Int := 19 + (pickP (l.getD i 0) 109 : Int)
def cB (d : Int) (i : Nat) : ByteArray := rep1 (97 + (i : Int) + d)
def cTx (l : List Int) (d : Int) : Nat → Tx
  | 0 => []
  | k + 1 => txPut (cK l k) (cB d k) (cTx l d k)
def cSec (l : List Int) (d : Int) (M : List ByteArray) : Nat → List ByteArray
  | 0 => M
  | k + 1 => (cSec l d M k).set (cK l k).toNat (cB d k)
theorem cSec_len (l : List Int) (d : Int) (M : List ByteArray) : ∀ k, (cSec l d M k).length = M.length
  | 0 => rfl
  | k + 1 => by rw [cSec, List.length_set, cSec_len l d M k]
theorem cTx_srt (l : List Int) (d : Int) : ∀ k, Srt (cTx l d k)
  | 0 => List.Pairwise.nil
  | k + 1 => srt_put (cTx_srt l d k) _ _
theorem cTx_len (l : List Int) (d : Int) : ∀ k, (cTx l d k).length ≤ k
  | 0 => Nat.le_refl _
  | k + 1 => by
    rw [cTx, put_len (cTx_srt l d k)]
    have := cTx_len l d k
    split <;> omega
theorem cK_lo (l : List Int) (i : Nat) : 19 ≤ cK l i ∧ cK l i < 128 := by
  have := pickP_lt (l.getD i 0) 109 (by decide)
  unfold cK
  omega
/-- A transaction of some writes is open. -/
def cS (S : PS) (l : List Int) (d : Int) (k : Nat) : PS := { S with op := true, tx := cTx l d k }
theorem cS_step (S : PS) (l : List Int) (d : Int) (k : Nat) (hk : k < 16) (hl : S.lost = false) (hn : S.s.last.length = 128) : refP (cS S l d k) (cK l k) (cB d k) = 0 ∧ writeP (cS S l d k) (cK l k) (cB d k) = cS S l d (k + 1) := by
  have h0 : refP (cS S l d k) (cK l k) (cB d k) = 0 := by
    obtain ⟨a1, a2⟩ := cK_lo l k
    have e1 : hasB (cS S l d k).s (cK l k) = true := by simp [hasB, cS, hn]; omega
    have e2 : roomB (cS S l d k) (cK l k) = true := by
      have := cTx_len l d k
      unfold roomB
      rw [Bool.or_eq_true]
      right
      exact decide_eq_true (by show ((cTx l d k).length : Int) < 16; omega)
    unfold refP
    rw [if_neg (by rw [e1]; simp), if_neg (by omega), if_neg (by rw [cB, rep1_size]; simp), if_neg (by simp [cS]), if_neg (by simp [cS, hl]), if_pos e2]
  refine ⟨h0, ?_⟩
  unfold writeP
  rw [if_pos h0]
  rfl
theorem strOf_one (y : Int) (h : 0 ≤ y ∧ y < 256) : bytesB (strOfNums [y]) = rep1 y := by
  have h1 : (strOfNums [y]).size = 1 := by rw [strOfNums_size]; rfl
  rw [bytesB, if_pos h1, nums_strOfNums _ (bytes_of (l := [y]) (fun x hx => by simp at hx; omega))]
  rfl
theorem strs_seti (M : List ByteArray) (k : Nat) (t : ByteArray) : (strs M).toArray.setIfInBounds k (.string t) = (strs (M.set k t)).toArray := by
  simp [strs]
theorem conv_one (W : World) (y : Int) : (convert 97 9 (.slice (some ⟨W.heap.size, 0, none⟩) 1 1)).run Tryz.prog (W.alloc (.cells #[.int .u8 y] 5)) = .ok (.string (strOfNums [y])) (W.alloc (.cells #[.int .u8 y] 5)) :=
  run_convert_bytes_arg (P := Tryz.prog) _ 97 5 Tryz.underlying97 Tryz.underlying5 W.heap.size 0 1 1 [y] rfl (fun i hi => by
    have : i = 0 := by omega
    subst this
    rw [(Blk.new W 5 #[.int .u8 y]).cell]
    rfl) 9 Tryz.underlying9
def CtI (w0 w : World) (b jb pb : Nat) (S : PS) (X : Nat → Prop) (g : Nat) (M : List ByteArray) (l : List Int) (d : Int) (k : Nat) (wr : World) : Prop :=
  PK w0 wr b jb pb (cS S l d k) X ∧ Blk wr g (strs (cSec l d M k)).toArray 9 ∧ Only (fun x => ¬ X x ∨ x = g) w wr
set_option maxRecDepth 100000 in
set_option maxHeartbeats 2000000 in
theorem commits_any {w0 w : World} {b jb pb : Nat} {S : PS} {X : Nat → Prop} (K : PK w0 w b jb pb S X) (ho : S.op = false) (hl : S.lost = false) (htx : S.tx = []) (hn : S.s.last.length = 128) (hnx : S.nx < 4294967296) (hp : S.s.pend.length ≤ 1000000) (ha : S.s.acts.length ≤ 100000000) (g gc : Nat) (M : List ByteArray) (hM : M.length = 128) (hB : Blk w g (strs M).toArray 9) (hgX : X g) (hg0 : w0.heap.size ≤ g) (p : Option Addr) (c : Nat) (l : List Int) (n : Nat) (hnl : n = l.length) (hI : Ints w0 p l) (hI64 : ∀ i, I64 (l.getD i 0)) (s : ByteArray) (x d : Int) (hs : s.size = 1) (hx : ∀ h : 0 < s.size, ((s[0]'h).toNat : Int) = x) (hd : IntKind.u8.wrap (x - 98) = d) (hd2 : 0 ≤ d ∧ d ≤ 100) :
    Calls Tryz.prog 23 #[.pointer (some ⟨pb, 0, none⟩), .slice (some ⟨g, 0, none⟩) 128 gc, .slice p n c, .string s] w fun e w' => e = .returned (.int .i64 (commitPE (cS S l d (min n 16)))) ∧ PK w0 w' b jb pb (commitPS (cS S l d (min n 16))) X ∧ Blk w' g (strs (cSec l d M (min n 16))).toArray 9 ∧ Only (fun x => ¬ X x ∨ x = g) w w' := by
  have HBg := hide (pbegin_any K)
  have hb0 : beginE S = 0 ∧ beginS S = cS S l d 0 := by
    constructor
    · simp [beginE, ho, hl]
    · simp [beginS, ho, hl, cS, cTx, htx]
  rw [hb0.1, hb0.2] at HBg
  have HK0 := hide (And.intro hB (And.intro hM (And.intro hgX (And.intro hg0 (And.intro hI hI64)))))
  have HP := hide (And.intro hl (And.intro hn (And.intro hnx (And.intro hp ha))))
  have hs0 : (0 : Int) < (s.size : Int) := by omega
  have HSX := hide hx
  have HNL := hide hnl
  clear K ho hl htx hn hnx hp ha hb0 hB hgX hM hI hI64 hx hnl
  have hcv := conv_one
  go_enter Tryz.func23, Tryz.ntmps23
  go_wp2_with fail
  refine (unhide HBg).mono ?_
  rintro e w1 ⟨rfl, K1, hO1⟩
  have X0 := hide (show CtI w0 w b jb pb S X g M l d 0 w1 from ⟨K1, (unhide HK0).1.only hO1 (fun q => q (unhide HK0).2.2.1), hO1.mono (fun _ _ q => .inl q)⟩)
  clear K1 hO1 HBg
  go_wp2
  go_loopw [10] (fun i wr => ∃ k : Nat, k ≤ min n 16 ∧ i = .int .i64 (k : Int) ∧ CtI w0 w b jb pb S X g M l d k wr) (fun i _ => 16 - (intOf i).toNat)
  case atStart => exact ⟨0, by omega, rfl, unhide X0⟩
  case round =>
    obtain ⟨k, hk, rfl, h1, h2, h3⟩ := hrel
    obtain ⟨wo, rfl⟩ : ∃ wo, wo = wr := ⟨_, rfl⟩
    clear X0
    by_cases hkn : k < n
    · have e1 : (k : Int) < (n : Int) := by omega
      by_cases hk16 : k < 16
      · have e2 : (k : Int) < 16 := by omega
        have hkl : k < l.length := by have := unhide HNL; omega
        obtain ⟨gl, ol, rfl, hgl, hcl⟩ := (unhide HK0).2.2.2.2.1 k hkl
        have hcl' : wo.cell? ⟨gl, ol + k, none⟩ = some (.int .i64 (l.getD k 0)) := (h1.bel.cell (p := ⟨gl, ol + k, none⟩) hgl).trans hcl
        have HPK := hide (fun W => pick6_any (l.getD k 0) 109 (by decide) ((unhide HK0).2.2.2.2.2 k) 109 rfl W)
        have hpl := pickP_lt (l.getD k 0) 109 (by decide)
        have hck : cK l k = 19 + (pickP (l.getD k 0) 109 : Int) := rfl
        have HCK := hide hck
        obtain ⟨z, hz⟩ : ∃ z, l.getD k 0 = z := ⟨_, rfl⟩
        rw [hz] at hcl' HPK HCK hpl
        generalize pickP z 109 = q at *
        have HH := hide (And.intro h1 (And.intro h2 h3))
        clear h1 h2 h3 hck hz hkl hgl hcl
        have HBY := hide (fun (s : ByteArray) (W : World) => bytes6_any s W)
        go_wp2_with (go_at_call 10; refine (unhide HPK _).mono ?_; rintro e w' ⟨rfl, hw'⟩; subst w')
        refine (unhide HBY _ _).mono ?_
        rintro e w2 ⟨rfl, hb2⟩
        have hy : ((97 : Int) + (k : Int) + (((s[0]'(by omega)).toNat : Int) - 98)) % 256 = 97 + (k : Int) + d := by
          have := unhide HSX (by omega)
          rw [this]
          have hw : IntKind.u8.wrap (x - 98) = (x - 98) % 256 := IntKind.wrap_u8' _
          rw [hw] at hd
          omega
        rw [hy, strOf_one _ (by omega)]
        clear hy
        obtain ⟨t, ht⟩ : ∃ t, rep1 (97 + (k : Int) + d) = t := ⟨_, rfl⟩
        rw [ht]
        have htB : cB d k = t := ht
        obtain ⟨a1, a2⟩ := cS_step S l d k hk16 (unhide HP).1 (unhide HP).2.1
        rw [htB, unhide HCK] at a1 a2
        obtain ⟨h1, h2, h3⟩ := unhide HH
        have hb02 : Below wo.heap.size wo w2 := ((Below.refl _ wo).alloc (Nat.le_refl _) _).trans (hb2.mono (by simp))
        have HW := hide (pwrite_any (h1.below hb02) (19 + (q : Int)) t (by rw [← ht, rep1_size]; decide))
        rw [a1, a2] at HW
        have HX := hide (And.intro (h2.only (Only.of_below (P := fun _ => False) hb02) (fun q => q)) (And.intro (h3.trans (Only.of_below (P := fun x => ¬ X x ∨ x = g) hb02) (fun _ _ q => q)) htB))
        clear h1 h2 h3 a1 a2 hb02 hb2 HH ht htB HBY HPK hcl' hcv
        go_wp2_with fail
        refine (unhide HW).mono ?_
        rintro e w3 ⟨rfl, K3, hO3⟩
        obtain ⟨h2, h3, htB⟩ := unhide HX
        have hB3 := h2.only hO3 (fun q => q (unhide HK0).2.2.1)
        have hq : (19 + (q : Int)).toNat = 19 + q := by omega
        have hM := (unhide HK0).2.1
        have hlen : (cSec l d M k).length = 128 := by rw [cSec_len, hM]
        have cs : ∃ old, w3.cell? ⟨g, 19 + q, none⟩ = some (.string old) := ⟨(cSec l d M k).getD (19 + q) ByteArray.empty, by
          rw [hB3.cell]
          simp [strs, List.getD_eq_getElem?_getD, show 19 + q < (cSec l d M k).length by omega]⟩
        obtain ⟨old, hcs⟩ := cs
        have fs : w3.frozen? ⟨g, 19 + q, none⟩ = false := hB3.frozen _
        have HRR := hide (show CtI w0 w b jb pb S X g M l d (k + 1) (w3.setCell ⟨g, 19 + q, none⟩ (.string t)) from by
          have hOs : Only (fun x => x = g) w3 (w3.setCell ⟨g, 19 + q, none⟩ (.string t)) := (Only.refl _ _).setCell _ _ (fun _ => rfl)
          refine ⟨K3.poke hOs (fun x q _ => by rw [q]; exact (unhide HK0).2.2.1) (fun x q => by rw [q]; exact hg0) (fun x hx => .inl hx), ?_, ?_⟩
          · have := hB3.set (19 + q) (.string t)
            rw [strs_seti] at this
            rw [cSec, htB, unhide HCK, hq]
            exact this
          · exact (h3.trans hO3 (fun _ _ q => .inl q)).trans hOs (fun _ _ q => .inr q))
        clear K3 hO3 h2 h3 htB hB3 hlen hM HW HX
        have i0 : (0 : Int) ≤ 19 + (q : Int) := by omega
        have i1 : 19 + (q : Int) < 128 := by omega
        go_wp2
        go_roundw
        case rel => exact ⟨k + 1, by omega, by go_num, unhide HRR⟩
        case measure => simp [intOf]; omega
      · have e2 : ¬ (k : Int) < 16 := by omega
        have hkm : min n 16 = k := by omega
        have hnx' : (cS S l d k).nx < 4294967296 := (unhide HP).2.2.1
        have HC := hide (pcommit_any h1 hnx' (unhide HP).2.2.2.1 (unhide HP).2.2.2.2)
        have HX := hide (And.intro h2 (And.intro h3 hkm))
        clear h1 h2 h3 hkm hnx'
        go_wp2_with fail
        refine (unhide HC).mono ?_
        rintro e w3 ⟨rfl, K3, hO3⟩
        obtain ⟨h2, h3, hkm⟩ := unhide HX
        have HF := hide (And.intro K3 (And.intro (h2.only hO3 (fun q => q (unhide HK0).2.2.1)) (h3.trans hO3 (fun _ _ q => .inl q))))
        have HKM := hide hkm
        clear K3 hO3 h2 h3 hkm HC HX
        go_wp2
        go_ret
        rw [unhide HKM]
        exact ⟨rfl, unhide HF⟩
    · have e1 : ¬ (k : Int) < (n : Int) := by omega
      have hkm : min n 16 = k := by omega
      have hnx' : (cS S l d k).nx < 4294967296 := (unhide HP).2.2.1
      have HC := hide (pcommit_any h1 hnx' (unhide HP).2.2.2.1 (unhide HP).2.2.2.2)
      have HX := hide (And.intro h2 (And.intro h3 hkm))
      clear h1 h2 h3 hkm hnx'
      go_wp2_with fail
      refine (unhide HC).mono ?_
      rintro e w3 ⟨rfl, K3, hO3⟩
      obtain ⟨h2, h3, hkm⟩ := unhide HX
      have HF := hide (And.intro K3 (And.intro (h2.only hO3 (fun q => q (unhide HK0).2.2.1)) (h3.trans hO3 (fun _ _ q => .inl q))))
      have HKM := hide hkm
      clear K3 hO3 h2 h3 hkm HC HX
      go_wp2
      go_ret
      rw [unhide HKM]
      exact ⟨rfl, unhide HF⟩
end Go.Proofs.YtnkaooafenakdaaGreatDoor
