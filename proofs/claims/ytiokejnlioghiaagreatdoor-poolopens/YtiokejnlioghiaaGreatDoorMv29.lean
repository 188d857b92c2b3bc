import Derived.Test.YtiokejnlioghiaaGreatDoorMv28
import Derived.Test.YtiokejnlioghiaaGreatDoorMv16
import Derived.Test.YtiokejnlioghiaaGreatDoorMv20
import Derived.Test.YtiokejnlioghiaaGreatDoorMv18
import Derived.Test.YtiokejnlioghiaaGreatDoorMv26
namespace Go.Proofs.YtiokejnlioghiaaGreatDoor
open Go.RowKit Go.Maps Go.Sort Go.Shelf
set_option maxRecDepth 100000 in
set_option maxHeartbeats 1000000 in
theorem newHand_any (k : Int) (w : World) : Calls Tryz.prog 28 #[.int .i64 k] w fun e w' => ∃ bv, e = .returned (.agg #[.int .i64 k, .map (some bv), .slice none 0 0]) ∧ w.heap.size ≤ bv ∧ Mp w' bv [] ∧ Below w.heap.size w w' := by
  have hmm := @run_makeMap Tryz.prog
  go_enter Tryz.func28, Tryz.ntmps28
  go_wp2
  obtain ⟨w1, hw1⟩ : ∃ w1, w.alloc (.cells #[.int .i64 k, .map (some (w.heap.size + 1)), .slice none 0 0] 76) = w1 := ⟨_, rfl⟩
  have B : Blk (w1.alloc (.map #[] 0)) w.heap.size #[.int .i64 k, .map (some (w.heap.size + 1)), .slice none 0 0] 76 := by rw [← hw1]; exact (Blk.new w _ _).alloc _
  have hs : w1.heap.size = w.heap.size + 1 := by rw [← hw1]; simp
  have hm := Mp.made w1
  rw [hs] at hm
  have hb : Below w.heap.size w (w1.alloc (.map #[] 0)) := by rw [← hw1]; exact ((Below.refl _ w).alloc (Nat.le_refl _) _).alloc (by simp) _
  have hld := load_blk 76 _ B Tryz.underlying76 rfl (by kernel_rfl)
  rw [hw1]
  refine bodyPost_ret (v := .agg #[.int .i64 k, .map (some (w.heap.size + 1)), .slice none 0 0]) (results_cell rfl _ _ _ ⟨w.heap.size, 0, none⟩ rfl _ hld) rfl ⟨_, rfl, by omega, hm, hb⟩
/-- A pool that was made over what journal.Open left. -/
def POk (b : Nat) (keep : Nat) (w1 : World) (jp : Option Addr) (pb bw bv : Nat) (w' : World) : Prop :=
  Blk w' pb #[.pointer (some ⟨b, 0, none⟩), .pointer jp, .bool false, .map (some bw), .int .i64 (keep : Int), .map (some bv), .slice none 0 0, .int .i64 0, .int .i64 0, .bool false] 79 ∧ Mp w' bw [] ∧ Mp w' bv [] ∧ w1.heap.size ≤ pb ∧ w1.heap.size ≤ bw ∧ w1.heap.size ≤ bv ∧ bw ≠ bv ∧ Below w1.heap.size w1 w'
theorem popen_bad (w : World) (p : Option Addr) (k : Int) (hk : ¬ (0 ≤ k ∧ k ≤ 64)) : Calls Tryz.prog 6 #[.pointer p, .int .i64 k] w fun e w' => e = .returned (.tuple #[.pointer none, .int .i64 1]) ∧ w' = w := by
  by_cases h0 : k < 0
  · have hd : decide (k < 0) = true := by simpa using h0
    clear hk
    go_enter Tryz.func6, Tryz.ntmps6
    go_wp2
    go_ret2
    exact ⟨rfl, rfl⟩
  · have hd : decide (k < 0) = false := by simpa using h0
    have hd2 : decide (64 < k) = true := by simp; omega
    clear hk
    go_enter Tryz.func6, Tryz.ntmps6
    go_wp2
    go_ret2
    exact ⟨rfl, rfl⟩
theorem popen_nil (w : World) (k : Int) (hk : 0 ≤ k ∧ k ≤ 64) : Calls Tryz.prog 6 #[.pointer none, .int .i64 k] w fun e w' => e = .returned (.tuple #[.pointer none, .int .i64 2]) ∧ w' = w := by
  have hd : decide (k < 0) = false := by simp; omega
  have hd2 : decide (64 < k) = false := by simp; omega
  clear hk
  go_enter Tryz.func6, Tryz.ntmps6
  go_wp2
  go_ret2
  exact ⟨rfl, rfl⟩
set_option maxRecDepth 100000 in
set_option maxHeartbeats 1000000 in
theorem popen_any (w : World) (b : Nat) (keep : Nat) (hk : keep ≤ 64) (Q : Option Addr → Bool → Int → World → Prop) (hJ : Calls Tryz.prog 10 #[.pointer (some ⟨b, 0, none⟩)] w fun e w' => ∃ jp ag er, e = .returned (.tuple #[.pointer jp, .bool ag, .int .i64 er]) ∧ Q jp ag er w') :
    Calls Tryz.prog 6 #[.pointer (some ⟨b, 0, none⟩), .int .i64 (keep : Int)] w fun e w' => ∃ jp ag er w1, Q jp ag er w1 ∧ ((er ≠ 0 ∧ e = .returned (.tuple #[.pointer none, .int .i64 er]) ∧ w' = w1) ∨ (er = 0 ∧ ∃ pb bw bv, e = .returned (.tuple #[.pointer (some ⟨pb, 0, none⟩), .int .i64 0]) ∧ POk b keep w1 jp pb bw bv w')) := by
  have hd : decide ((keep : Int) < 0) = false := by simp
  have hd2 : decide ((64 : Int) < (keep : Int)) = false := by simp; omega
  have HJ := hide hJ
  have hmm := @run_makeMap Tryz.prog
  clear hJ hk
  go_enter Tryz.func6, Tryz.ntmps6
  go_wp2_with fail
  refine (unhide HJ).mono ?_
  rintro e w1 ⟨jp, ag, er, rfl, hQ⟩
  have HQ := hide hQ
  clear hQ HJ
  by_cases he : er = 0
  · subst he
    have HN := hide (fun W => newHand_any (keep : Int) W)
    obtain ⟨w2, hw2⟩ : ∃ w2, w1.alloc (.map #[] 0) = w2 := ⟨_, rfl⟩
    have hm2 : Mp w2 w1.heap.size [] := by rw [← hw2]; exact Mp.made w1
    have hb2 : Below w1.heap.size w1 w2 := by rw [← hw2]; exact (Below.refl _ _).alloc (Nat.le_refl _) _
    have HW2 := hide (And.intro hw2 (And.intro hm2 hb2))
    clear hw2 hm2 hb2
    go_wp2_with fail
    rw [(unhide HW2).1]
    refine (unhide HN _).mono ?_
    rintro e w3 ⟨bv, rfl, h1, h2, h3⟩
    have hm3 := (unhide HW2).2.1.below h3 (unhide HW2).2.1.lt
    have hb3 := (unhide HW2).2.2.trans (h3.mono (unhide HW2).2.2.size)
    have hne : w1.heap.size ≠ bv := by have := (unhide HW2).2.1.lt; omega
    have hv3 := (unhide HW2).2.2.size
    have HR := hide (And.intro h1 (And.intro h2 (And.intro hm3 (And.intro hb3 (And.intro hne hv3)))))
    clear h1 h2 h3 hm3 hb3 hne hv3
    obtain ⟨bw, hbw⟩ : ∃ x, w1.heap.size = x := ⟨_, rfl⟩
    have HBW := hide hbw
    rw [hbw]
    rw [hbw] at HR
    clear hbw
    go_wp2
    go_ret2
    obtain ⟨h1, h2, hm3, hb3, hne, hv3⟩ := unhide HR
    refine ⟨jp, ag, 0, w1, unhide HQ, .inr ⟨rfl, w3.heap.size, bw, bv, rfl, Blk.new w3 _ _, hm3.alloc _, h2.alloc _, ?_, ?_, ?_, hne, ?_⟩⟩
    · exact hb3.size
    · rw [unhide HBW]; exact Nat.le_refl _
    · rw [unhide HBW]; omega
    · rw [unhide HBW]; exact hb3.alloc (by rw [← unhide HBW]; exact hb3.size) _
  · have hne : (er != 0) = true := by simpa using he
    go_wp2
    go_ret2
    exact ⟨jp, ag, er, _, unhide HQ, .inl ⟨he, rfl, rfl⟩⟩
end Go.Proofs.YtiokejnlioghiaaGreatDoor

namespace Go.Proofs.YtiokejnlioghiaaGreatDoor
open Go.RowKit Go.Maps Go.Sort Go.Shelf
set_option maxHeartbeats 400000 in
theorem pick6_any (c : Int) (n : Nat) (hn : 0 < n) (hc : I64 c) (N : Int) (hN : N = (n : Int)) (w : World) :
    Calls Tryz.prog 13 #[.int .i64 c, .int .i64 N] w fun e w' => e = .returned (.int .i64 (pickP c n : Int)) ∧ w' = w := by
  subst hN
  obtain ⟨hc1, hc2⟩ := hc
  have hz : ((n : Int) == 0) = false := by simp; omega
  by_cases h : c < 0
  · have e1 : (-(c + 1)).tmod (n : Int) = (-(c + 1)) % (n : Int) := Int.tmod_eq_emod_of_nonneg (by omega)
    have hp : 0 ≤ (-(c + 1)) % (n : Int) := Int.emod_nonneg _ (by omega)
    have hl : (-(c + 1)) % (n : Int) < (n : Int) := Int.emod_lt_of_pos _ (by omega)
    have HP := hide (show (pickP c n : Int) = (-(c + 1)) % (n : Int) by rw [pickP, if_pos h]; omega)
    go_enter Tryz.func13, Tryz.ntmps13
    go_wp2
    go_ret
    exact ⟨by rw [unhide HP]; rfl, rfl⟩
  · have e1 : c.tmod (n : Int) = c % (n : Int) := Int.tmod_eq_emod_of_nonneg (by omega)
    have hp : 0 ≤ c % (n : Int) := Int.emod_nonneg _ (by omega)
    have hl : c % (n : Int) < (n : Int) := Int.emod_lt_of_pos _ (by omega)
    have HP := hide (show (pickP c n : Int) = c % (n : Int) by rw [pickP, if_neg h]; omega)
    go_enter Tryz.func13, Tryz.ntmps13
    go_wp2
    go_ret
    exact ⟨by rw [unhide HP]; rfl, rfl⟩
/-- A sector of one byte. -/
def rep1 (x : Int) : ByteArray := strOfNums (List.replicate 256 x)
def bytesB (s : ByteArray) : ByteArray := if s.size = 1 then rep1 ((nums s).getD 0 0) else s
theorem prtI_rep (x : Int) (t : Nat) (ht : t < 256) : (prtI (List.replicate 256 x) t).set t x = prtI (List.replicate 256 x) (t + 1) := by
  have h := prtI_step (List.replicate 256 x) t (by rw [List.length_replicate]; exact ht)
  have e : (List.replicate 256 x).getD t 0 = x := by rw [List.getD_eq_getElem?_getD, List.getElem?_replicate_of_lt ht]; rfl
  rw [e] at h
  exact h
set_option maxRecDepth 100000 in
set_option maxHeartbeats 1000000 in
theorem bytes6_any (s : ByteArray) (w : World) : Calls Tryz.prog 9 #[.string s] w fun e w' => e = .returned (.string (bytesB s)) ∧ Below w.heap.size w w' := by
  by_cases h1 : s.size = 1
  · have hne : ((s.size : Int) != 1) = false := by simp [h1]
    have hmk := run_make_u8 256 256 (by omega) (by omega) w
    have hbx := nums_bytes s 0
    have hix := index_str s 0 (by omega)
    have hsx : ∀ (h : 0 < s.size), ((s[0]'h).toNat : Int) = (nums s).getD 0 0 := fun h => by simp [nums, List.getD_eq_getElem?_getD, h]; rfl
    have HB := hide (show bytesB s = rep1 ((nums s).getD 0 0) from by rw [bytesB, if_pos h1])
    generalize (nums s).getD 0 0 = x at *
    have hL : (List.replicate 256 x).length = 256 := List.length_replicate ..
    have HST := hide (fun t ht => prtI_rep x t ht)
    have HR := hide (show rep1 x = strOfNums (List.replicate 256 x) from rfl)
    obtain ⟨Lx, hLx⟩ : ∃ Lx, Lx = List.replicate 256 x := ⟨_, rfl⟩
    rw [← hLx] at hL HST HR
    clear hLx
    have X0 := hide (show KeyInv w (prtI Lx 0) (w.alloc (.cells ((List.replicate 256 (0 : Int)).map (Value.int .u8)).toArray 5)) from ⟨by rw [prtI, hL]; exact arr_new w .u8 _ 5 _ rfl, (Below.refl _ _).alloc (Nat.le_refl _) _, by simp⟩)
    generalize hx : w.alloc (.cells ((List.replicate 256 (0 : Int)).map (Value.int .u8)).toArray 5) = x2 at *
    clear hx
    simp only [Int.cast_ofNat_Int] at hmk
    have i2 : (0 : Int) < (s.size : Int) := by omega
    have HSX := hide hsx
    clear h1 hsx
    go_enter Tryz.func9, Tryz.ntmps9
    go_wp2
    clear hmk
    go_loopw [4] (fun i wr => ∃ t : Nat, t ≤ 256 ∧ i = .int .i64 (t : Int) ∧ Hid (KeyInv w (prtI Lx t) wr)) (fun i _ => 256 - (intOf i).toNat)
    case atStart => exact ⟨0, by omega, rfl, X0⟩
    case round =>
      obtain ⟨t, ht, rfl, HI⟩ := hrel
      clear X0
      by_cases htn : t < 256
      · have hI := unhide HI
        have hlen : (prtI Lx t).length = 256 := by rw [prtI_len _ _ (by omega), hL]
        have c1 := hI.1.get0 t (by omega)
        have f1 := hI.1.free0 t (by omega)
        have HE := hide (unhide HST t htn)
        have HLEN := hide hlen
        generalize (prtI Lx t).getD t 0 = old at *
        clear hI hlen hL
        have i0 : 0 ≤ (t : Int) := by omega
        have i1 : (t : Int) < 256 := by omega
        go_wp2
        go_roundw
        case rel =>
          have h := (unhide HI).put t (by rw [unhide HLEN]; omega) _ (unhide HE)
          rw [← unhide HSX (by omega)] at h
          exact ⟨t + 1, by omega, by go_num, hide h⟩
        case measure => simp [intOf]; omega
      · have hI := unhide HI
        have hfin : prtI Lx t = Lx := by
          rw [prtI, List.take_of_length_le (by omega), hL, show 256 - t = 0 by omega]
          simp
        rw [hfin] at hI
        have hcv := run_convert_bytes_arg (P := Tryz.prog) wr 73 5 Tryz.underlying73 Tryz.underlying5 w.heap.size 0 256 256 Lx hL (fun i hi => hI.1.get i (by omega)) 9 Tryz.underlying9
        have HBW := hide hI.2.1
        clear hI HI hfin
        have e1 : ¬ (t : Int) < 256 := by omega
        go_wp2
        go_ret
        rw [unhide HB, unhide HR]
        exact ⟨rfl, unhide HBW⟩
  · have hne : ((s.size : Int) != 1) = true := by simp; omega
    have HB := hide (show bytesB s = s from by rw [bytesB, if_neg h1])
    clear h1
    go_enter Tryz.func9, Tryz.ntmps9
    go_wp2
    go_ret
    rw [unhide HB]
    exact ⟨rfl, Below.refl _ _⟩
theorem POk.pk {w0 w1 w' : World} {b jb pb bw bv keep nx : Nat} {s : DSt} {X : Nat → Prop} (h : JK w0 w1 b jb s nx false X) (hk : keep ≤ 64) (hP : POk b keep w1 (some ⟨jb, 0, none⟩) pb bw bv w') : PK w0 w' b jb pb { s := s, nx := nx, jl := false, op := false, tx := [], keep := keep, h := [], hits := 0, mis := 0, lost := false } X := by
  obtain ⟨a1, a2, a3, a4, a5, a6, a7, a8⟩ := hP
  have hb := h.bel.size
  refine ⟨bw, bv, .slice none 0 0, h.more a8 _ (fun x hx => ?_), a1, a2, ⟨⟨[], List.Perm.refl _, a3⟩, ⟨rfl, .inl ⟨rfl, rfl⟩⟩, fun p hp => by cases hp⟩, a7, by omega, by omega, by omega, fun x hx q => ?_, Nat.zero_le _, hk, Nat.zero_le _, fun p hp => by cases hp⟩
  · rcases hx with q | q
    · exact .inl q
    · refine .inr ?_
      rcases q with q | q | q | q
      · rw [q]; exact ⟨a4, a1.lt⟩
      · rw [q]; exact ⟨a5, a2.lt⟩
      · rw [q]; exact ⟨a6, a3.lt⟩
      · simp [Value.ownBlock] at q
  · have := h.lt x hx
    rcases q with q | q | q | q
    · omega
    · omega
    · omega
    · simp [Value.ownBlock] at q
end Go.Proofs.YtiokejnlioghiaaGreatDoor

namespace Go.Proofs.YtiokejnlioghiaaGreatDoor
open Go.RowKit Go.Maps Go.Sort Go.Shelf
set_option maxRecDepth 100000
set_option maxHeartbeats 4000000 in
theorem opens_bad {w0 w : World} {b br xb : Nat} {s : DSt} {X : Nat → Prop} (h : Pr w0 w b br s s X) (hX : X xb) (hlo : w0.heap.size ≤ xb) (hBx : Blk w xb #[.pointer (some ⟨b, 0, none⟩), .pointer none, .pointer (some ⟨br, 0, none⟩), .pointer none, .slice none 0 0, .slice none 0 0, .slice none 0 0, .slice none 0 0] 54) (k : Int) (hk : ¬ (0 ≤ k ∧ k ≤ 64)) :
    Calls Tryz.prog 21 #[.pointer (some ⟨xb, 0, none⟩), .int .i64 k] w fun e w' => e = .returned (.bool true) ∧ Pr w0 w' b br s s X ∧ Blk w' xb #[.pointer (some ⟨b, 0, none⟩), .pointer none, .pointer (some ⟨br, 0, none⟩), .pointer none, .slice none 0 0, .slice none 0 0, .slice none 0 0, .slice none 0 0] 54 := by
  have HP1 := hide (popen_bad w (some ⟨b, 0, none⟩) k hk)
  have HP2 := hide (rpopen_bad w (some ⟨br, 0, none⟩) k hk)
  have c0 : w.cell? ⟨xb, 0, none⟩ = some (.pointer (some ⟨b, 0, none⟩)) := hBx.cell 0
  have c2 : w.cell? ⟨xb, 2, none⟩ = some (.pointer (some ⟨br, 0, none⟩)) := hBx.cell 2
  have f1 : w.frozen? ⟨xb, 1, none⟩ = false := hBx.frozen 1
  have g1 : w.cell? ⟨xb, 1, none⟩ = some (.pointer none) := hBx.cell 1
  obtain ⟨x3, hx3⟩ : ∃ z, w.setCell ⟨xb, 1, none⟩ (.pointer none) = z := ⟨_, rfl⟩
  have hBy := hBx.set 1 (.pointer none)
  rw [hx3] at hBy
  have f3 : x3.frozen? ⟨xb, 3, none⟩ = false := hBy.frozen 3
  have g3 : x3.cell? ⟨xb, 3, none⟩ = some (.pointer none) := hBy.cell 3
  obtain ⟨x4, hx4⟩ : ∃ z, x3.setCell ⟨xb, 3, none⟩ (.pointer none) = z := ⟨_, rfl⟩
  have hBz := hBy.set 3 (.pointer none)
  rw [hx4] at hBz
  have oXB : Only (fun k => k = xb) w x4 := by
    rw [← hx4, ← hx3]
    exact ((Only.refl (fun k => k = xb) w).setCell ⟨xb, 1, none⟩ _ (fun _ => rfl)).setCell ⟨xb, 3, none⟩ _ (fun _ => rfl)
  have HF := hide (show Pr w0 x4 b br s s X ∧ Blk x4 xb #[.pointer (some ⟨b, 0, none⟩), .pointer none, .pointer (some ⟨br, 0, none⟩), .pointer none, .slice none 0 0, .slice none 0 0, .slice none 0 0, .slice none 0 0] 54 from ⟨h.poke oXB (fun k e => by rw [e]; exact ⟨hX, hlo⟩), hBz⟩)
  clear h hX hlo hBx hk hBy hBz oXB
  go_enter Tryz.func21, Tryz.ntmps21
  go_wp2_with fail
  refine (unhide HP1).mono ?_
  rintro e y ⟨rfl, hy⟩
  subst y
  go_wp2_with fail
  refine (unhide HP2).mono ?_
  rintro e y ⟨rfl, hy⟩
  subst y
  clear HP1 HP2
  go_wp2
  go_ret
  exact ⟨rfl, unhide HF⟩
set_option maxHeartbeats 4000000 in
theorem opens_no {w0 w : World} {b br xb : Nat} {s : DSt} {X : Nat → Prop} (h : Pr w0 w b br s s X) (hX : X xb) (hlo : w0.heap.size ≤ xb) (hBx0 : Blk w xb #[.pointer (some ⟨b, 0, none⟩), .pointer none, .pointer (some ⟨br, 0, none⟩), .pointer none, .slice none 0 0, .slice none 0 0, .slice none 0 0, .slice none 0 0] 54) (keep : Nat) (hk : keep ≤ 64) (hg : ETy w) (hS : Sane s) (hC : Coh s) (ht : (readT s 1).size ≤ 9223372036854775807) (hp : s.pend.length ≤ 100000) (ha : s.acts.length ≤ 100000) (hL : 18 ≤ s.last.length) {n : Nat} {H : List Int} {ok : Bool} {s' : DSt} {er : Int} {ag has : Bool} (hR : RHP (readT s 1) (s.last.length : Int) (n : Int) H ok) (hO : OR s n H ok s' er ag has) (hne : er ≠ 0) :
    Calls Tryz.prog 21 #[.pointer (some ⟨xb, 0, none⟩), .int .i64 (keep : Int)] w fun e w' => e = .returned (.bool true) ∧ Pr w0 w' b br s' s' X ∧ Blk w' xb #[.pointer (some ⟨b, 0, none⟩), .pointer none, .pointer (some ⟨br, 0, none⟩), .pointer none, .slice none 0 0, .slice none 0 0, .slice none 0 0, .slice none 0 0] 54 := by
  have HP1 := hide (popen_any w b keep hk (fun _ _ er' w1 => er' = er ∧ Pr w0 w1 b br s' s X ∧ Only (fun k => ¬ X k) w w1) ((h.openP hg hS ht (by omega) (by omega) hR hO).mono (fun e w' q => by
    obtain ⟨⟨jp, q1, q2⟩, q3, q4⟩ := q
    exact ⟨jp, ag, er, q1, rfl, q3, q4⟩)))
  have HP2 := hide (fun (W : World) (hW : Pr w0 W b br s' s X) => rpopen_any W br keep hk er (fun _ w2 => Pr w0 w2 b br s' s' X ∧ Only (fun k => ¬ X k) W w2) ((hW.openR hS hC (by omega) (by omega) hL hR hO).mono (fun e w' q => by
    obtain ⟨⟨jp, q1, q2⟩, q3, q4⟩ := q
    exact ⟨jp, ag, q1, q3, q4⟩)))
  have c0 : w.cell? ⟨xb, 0, none⟩ = some (.pointer (some ⟨b, 0, none⟩)) := hBx0.cell 0
  have HB := hide hBx0
  have HX := hide (And.intro hX hlo)
  have HNE := hide hne
  have ee : (er == er) = true := by simp
  have e0 : (er == 0) = false := by simpa using hne
  clear h hX hlo hBx0 hk hg hS hC ht hp ha hL hR hO hne
  go_enter Tryz.func21, Tryz.ntmps21
  go_wp2_with fail
  refine (unhide HP1).mono ?_
  rintro e x1 ⟨jp, ag1, er1, w1, ⟨rfl, hP, hO1⟩, (⟨hn1, rfl, rfl⟩ | ⟨hn1, _⟩)⟩
  case inr => exact absurd hn1 (unhide HNE)
  have hB1 := (unhide HB).only hO1 (fun q => q (unhide HX).1)
  have c2 : x1.cell? ⟨xb, 2, none⟩ = some (.pointer (some ⟨br, 0, none⟩)) := hB1.cell 2
  have HP3 := hide (unhide HP2 x1 hP)
  have HB1 := hide hB1
  clear hP hO1 hn1 hB1 HP1 HP2 c0
  go_wp2_with fail
  refine (unhide HP3).mono ?_
  rintro e x2 ⟨jp2, w2, ⟨hP, hO2⟩, (⟨hn2, rfl, rfl⟩ | ⟨hn2, _⟩)⟩
  case inr => exact absurd hn2 (unhide HNE)
  have hBx := (unhide HB1).only hO2 (fun q => q (unhide HX).1)
  have f1 : x2.frozen? ⟨xb, 1, none⟩ = false := hBx.frozen 1
  have g1 : x2.cell? ⟨xb, 1, none⟩ = some (.pointer none) := hBx.cell 1
  obtain ⟨x3, hx3⟩ : ∃ z, x2.setCell ⟨xb, 1, none⟩ (.pointer none) = z := ⟨_, rfl⟩
  have hBy := hBx.set 1 (.pointer none)
  rw [hx3] at hBy
  have f3 : x3.frozen? ⟨xb, 3, none⟩ = false := hBy.frozen 3
  have g3 : x3.cell? ⟨xb, 3, none⟩ = some (.pointer none) := hBy.cell 3
  obtain ⟨x4, hx4⟩ : ∃ z, x3.setCell ⟨xb, 3, none⟩ (.pointer none) = z := ⟨_, rfl⟩
  have hBz := hBy.set 3 (.pointer none)
  rw [hx4] at hBz
  have oXB : Only (fun k => k = xb) x2 x4 := by
    rw [← hx4, ← hx3]
    exact ((Only.refl (fun k => k = xb) x2).setCell ⟨xb, 1, none⟩ _ (fun _ => rfl)).setCell ⟨xb, 3, none⟩ _ (fun _ => rfl)
  have HF := hide (show Pr w0 x4 b br s' s' X ∧ Blk x4 xb #[.pointer (some ⟨b, 0, none⟩), .pointer none, .pointer (some ⟨br, 0, none⟩), .pointer none, .slice none 0 0, .slice none 0 0, .slice none 0 0, .slice none 0 0] 54 from ⟨hP.poke oXB (fun k e => by rw [e]; exact unhide HX), hBz⟩)
  clear hP hO2 hn2 hBx HP3 hBy hBz oXB c2
  go_wp2
  go_ret
  exact ⟨rfl, unhide HF⟩
/-- both pools are open -/
def YQ (w0 : World) (b br xb keep nx : Nat) (s : DSt) (w : World) : Prop :=
  ∃ (pb jb qb : Nat) (vr : RV) (jp : Option Addr) (X : Nat → Prop), Blk w xb #[.pointer (some ⟨b, 0, none⟩), .pointer (some ⟨pb, 0, none⟩), .pointer (some ⟨br, 0, none⟩), .pointer (some ⟨qb, 0, none⟩), .slice none 0 0, .slice none 0 0, .slice none 0 0, .slice none 0 0] 54 ∧ Blk w qb #[.pointer (some ⟨br, 0, none⟩), .pointer jp, .int .i64 (keep : Int), .slice none 0 0, .slice none 0 0, .bool false, .bool false, .int .i64 0, .int .i64 0] 166 ∧ Rk w w0.heap.size br vr s ∧ PK w0 w b jb pb { s := s, nx := nx, jl := false, op := false, tx := [], keep := keep, h := [], hits := 0, mis := 0, lost := false } (fun k => Fr4 br vr k ∨ X k ∨ k = qb) ∧ X xb ∧ w0.heap.size ≤ xb ∧ qb ≠ xb ∧ w0.heap.size ≤ qb
set_option maxHeartbeats 4000000 in
theorem opens_yes {w0 w : World} {b br xb : Nat} {s : DSt} {X : Nat → Prop} (h : Pr w0 w b br s s X) (hX : X xb) (hlo : w0.heap.size ≤ xb) (hXl : ∀ k, X k → w0.heap.size ≤ k) (hBx0 : Blk w xb #[.pointer (some ⟨b, 0, none⟩), .pointer none, .pointer (some ⟨br, 0, none⟩), .pointer none, .slice none 0 0, .slice none 0 0, .slice none 0 0, .slice none 0 0] 54) (keep : Nat) (hk : keep ≤ 64) (hg : ETy w) (hS : Sane s) (hC : Coh s) (ht : (readT s 1).size ≤ 9223372036854775807) (hp : s.pend.length ≤ 100000) (ha : s.acts.length ≤ 100000) (hL : 18 ≤ s.last.length) {n : Nat} {H : List Int} {ok : Bool} {s' : DSt} {ag : Bool} (hR : RHP (readT s 1) (s.last.length : Int) (n : Int) H ok) (hO : OR s n H ok s' 0 ag true) (hS' : Sane s') :
    Calls Tryz.prog 21 #[.pointer (some ⟨xb, 0, none⟩), .int .i64 (keep : Int)] w fun e w' => e = .returned (.bool true) ∧ YQ w0 b br xb keep ((n + 1) % 4294967296) s' w' := by
  have hXw : ∀ k, X k → k < w.heap.size := fun k hk => by
    obtain ⟨v, vr, h1, h2, h3, h7, h8⟩ := h
    exact (h8 k hk).2.2
  have HP1 := hide (popen_any w b keep hk (fun jp _ er' w1 => er' = 0 ∧ JpQ true w (fun W jb => Jb W jb b ((n + 1) % 4294967296) false) jp w1 ∧ Pr w0 w1 b br s' s X ∧ Only (fun k => ¬ X k) w w1) ((h.openP hg hS ht (by omega) (by omega) hR hO).mono (fun e w' q => by
    obtain ⟨⟨jp, q1, q2⟩, q3, q4⟩ := q
    exact ⟨jp, ag, 0, q1, rfl, q2, q3, q4⟩)))
  have HP2 := hide (fun (W : World) (vr : RV) (hb : w0.heap.size ≤ W.heap.size) (hW : Rk W w0.heap.size br vr s) => rpopen_any W br keep hk 0 (fun _ w2 => RPst w0.heap.size br vr s' W w2) ((ropen_any hW hb hS hC (by omega) (by omega) hL).mono (fun e w' q => by
    obtain ⟨⟨jp, q1, q2⟩, q3⟩ := ROQ.or q hR hO
    exact ⟨jp, ag, q1, q3⟩)))
  have c0 : w.cell? ⟨xb, 0, none⟩ = some (.pointer (some ⟨b, 0, none⟩)) := hBx0.cell 0
  have HB := hide hBx0
  have HX := hide (And.intro hX (And.intro hlo (And.intro hXl (And.intro hXw (And.intro hk (And.intro hS' h.bel.size))))))
  obtain ⟨nx, hnx⟩ : ∃ z, (n + 1) % 4294967296 = z := ⟨_, rfl⟩
  rw [hnx] at HP1 ⊢
  clear h hX hlo hXl hBx0 hk hg hS hC ht hp ha hL hR hO hnx hXw hS'
  go_enter Tryz.func21, Tryz.ntmps21
  go_wp2_with fail
  refine (unhide HP1).mono ?_
  rintro e x1 ⟨jp, ag1, er1, w1, ⟨rfl, hJp, hP, hO1⟩, (⟨hn1, _⟩ | ⟨_, pb, bw, bv, rfl, hPO⟩)⟩
  case inl => exact absurd rfl hn1
  obtain ⟨jb, rfl, hjl, hJb⟩ : ∃ jb, jp = some ⟨jb, 0, none⟩ ∧ w.heap.size ≤ jb ∧ Jb w1 jb b nx false := by
    rcases hJp with ⟨q, _⟩ | ⟨_, jb, q1, q2, q3⟩
    · cases q
    · exact ⟨jb, q1, q2, q3⟩
  obtain ⟨v1, vr1, k1, k2, k3, k4, k5⟩ := hP
  have hJK : JK w0 w1 b jb s' nx false (fun k => Fr4 br vr1 k ∨ X k) := by
    refine ⟨v1, k1, hJb, k1.noty hJb (by unfold FT; decide), Nat.le_trans (unhide HX).2.2.2.2.2.2 hjl, k4, (unhide HX).2.2.2.2.2.1, fun k hk => ?_⟩
    rcases hk with q | q
    · refine ⟨fun r => k3 k r q, fun e => ?_, (k2.frB k q).2⟩
      rw [e] at q
      exact k2.noty hJb (by unfold FT; decide) q
    · have := (unhide HX).2.2.2.1 k q
      exact ⟨(k5 k q).1, by omega, (k5 k q).2.2⟩
  have hPK := POk.pk hJK (unhide HX).2.2.2.2.1 hPO
  have hb1 : Below w1.heap.size w1 x1 := hPO.2.2.2.2.2.2.2
  have hR1 := k2.below hb1
  have hB1 := ((unhide HB).only hO1 (fun q => q (unhide HX).1)).below hb1 ((unhide HB).only hO1 (fun q => q (unhide HX).1)).lt
  have c2 : x1.cell? ⟨xb, 2, none⟩ = some (.pointer (some ⟨br, 0, none⟩)) := hB1.cell 2
  have HP3 := hide (unhide HP2 x1 vr1 (Nat.le_trans k4.size hb1.size) hR1)
  have H1 := hide (And.intro hPK (And.intro hR1 hB1))
  clear hJp hjl hJb k1 k2 k3 k4 k5 hO1 hJK hPK hb1 hR1 hB1 HP1 HP2 c0 hPO
  go_wp2_with fail
  refine (unhide HP3).mono ?_
  rintro e x2 ⟨jp2, w2, ⟨vr2, m1, m2, m3⟩, (⟨hn2, _⟩ | ⟨_, rfl, hx2⟩)⟩
  case inl => exact absurd rfl hn2
  obtain ⟨qb, hqb⟩ : ∃ z, w2.heap.size = z := ⟨_, rfl⟩
  have hbq : Below w2.heap.size w2 x2 := by rw [hx2]; exact (Below.refl _ _).alloc (Nat.le_refl _) _
  have hQ2 : Blk x2 qb #[.pointer (some ⟨br, 0, none⟩), .pointer jp2, .int .i64 (keep : Int), .slice none 0 0, .slice none 0 0, .bool false, .bool false, .int .i64 0, .int .i64 0] 166 := by rw [hx2, ← hqb]; exact Blk.new w2 _ _
  have oA : Only (Fr4 br vr1) x1 x2 := m2.trans (Only.of_below (P := fun _ => False) hbq) (fun _ _ q => q.elim)
  have nxb : ¬ Fr4 br vr1 xb := (unhide H1).2.1.noty (unhide H1).2.2 (by unfold FT; decide)
  have hBx := (unhide H1).2.2.only oA nxb
  have hqx : qb ≠ xb := fun e => by
    have l1 := (unhide H1).2.2.lt
    have l2 := m2.size
    omega
  have hql : w0.heap.size ≤ qb := by rw [← hqb]; exact Nat.le_trans (Nat.le_trans (unhide HX).2.1 (Nat.le_of_lt (unhide H1).2.2.lt)) m2.size
  have hPK2 : PK w0 x2 b jb pb _ (fun k => Fr4 br vr2 k ∨ X k ∨ k = qb) := (unhide H1).1.poke oA (fun x q _ => .inl q) (fun x q => ((unhide H1).2.1.frB x q).1) (fun x q => by
    rcases q with q | q | q
    · have l2 := (m1.frB x q).2
      have l3 := hbq.size
      rcases m3 x q with r | r
      · exact .inl (.inl r)
      · exact .inr ⟨r, by omega⟩
    · exact .inl (.inr q)
    · rw [q]
      exact .inr ⟨by rw [← hqb]; exact m2.size, hQ2.lt⟩)
  rw [hqb]
  have f1 : x2.frozen? ⟨xb, 1, none⟩ = false := hBx.frozen 1
  have g1 : x2.cell? ⟨xb, 1, none⟩ = some (.pointer none) := hBx.cell 1
  obtain ⟨x3, hx3⟩ : ∃ z, x2.setCell ⟨xb, 1, none⟩ (.pointer (some ⟨pb, 0, none⟩)) = z := ⟨_, rfl⟩
  have hBy := hBx.set 1 (.pointer (some ⟨pb, 0, none⟩))
  rw [hx3] at hBy
  have f3 : x3.frozen? ⟨xb, 3, none⟩ = false := hBy.frozen 3
  have g3 : x3.cell? ⟨xb, 3, none⟩ = some (.pointer none) := hBy.cell 3
  obtain ⟨x4, hx4⟩ : ∃ z, x3.setCell ⟨xb, 3, none⟩ (.pointer (some ⟨qb, 0, none⟩)) = z := ⟨_, rfl⟩
  have hBz := hBy.set 3 (.pointer (some ⟨qb, 0, none⟩))
  rw [hx4] at hBz
  have oXB : Only (fun k => k = xb) x2 x4 := by
    rw [← hx4, ← hx3]
    exact ((Only.refl (fun k => k = xb) x2).setCell ⟨xb, 1, none⟩ _ (fun _ => rfl)).setCell ⟨xb, 3, none⟩ _ (fun _ => rfl)
  have HF := hide (show YQ w0 b br xb keep nx s' x4 from ⟨pb, jb, qb, vr2, jp2, X, hBz, hQ2.only oXB hqx, (m1.below hbq).only oXB (fun k hk e => by
    rw [e] at hk
    exact (m1.below hbq).noty hBx (by unfold FT; decide) hk), hPK2.poke oXB (fun x e _ => by rw [e]; exact .inr (.inl (unhide HX).1)) (fun x e => by rw [e]; exact (unhide HX).2.1) (fun x q => .inl q), (unhide HX).1, (unhide HX).2.1, hqx, hql⟩)
  clear m1 m2 m3 hx2 hbq hQ2 oA nxb hBx hPK2 HP3 hBy hBz oXB c2 hqb hqx hql
  go_wp2
  go_ret
  exact ⟨rfl, unhide HF⟩
end Go.Proofs.YtiokejnlioghiaaGreatDoor
