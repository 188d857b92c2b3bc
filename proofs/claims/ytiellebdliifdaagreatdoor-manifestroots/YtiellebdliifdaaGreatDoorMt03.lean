import Derived.Test.YtiellebdliifdaaGreatDoorMt02
import Derived.BigQuiet
import Derived.WalkKit
import Derived.Test.YtiellebdliifdaaGreatDoorMt00
namespace Go.Proofs.YtiellebdliifdaaGreatDoor
open Go.RowKit
set_option maxRecDepth 100000 in
set_option maxHeartbeats 400000 in
theorem newReader_any (s : ByteArray) (w : World) :
  Calls Tryz.prog 144 #[.string s] w fun e w' => e = .returned (.pointer (some ⟨w.heap.size, 0, none⟩)) ∧ Rdr w' w.heap.size s 0 0 ∧ Below w.heap.size w w' ∧ w'.heap.size = w.heap.size + 1 := by
 go_enter Tryz.func144, Tryz.ntmps144
 go_wp2
 go_ret
 exact ⟨rfl, Blk.new _ _ _, (Below.refl _ _).alloc (Nat.le_refl _) _, by simp⟩
def doneE (r : ByteArray) (e : Int) : Int := if e = 0 ∧ 0 < r.size then 33 else e
set_option maxRecDepth 100000 in
set_option maxHeartbeats 1000000 in
theorem rdone_any (w : World) (b : Nat) (r : ByteArray) (t e : Int) (h : Rdr w b r t e) :
  Calls Tryz.prog 189 #[.pointer (some ⟨b, 0, none⟩)] w fun ev w' => ev = .returned (.tuple #[.int .i64 (doneE r e), .int .i64 t]) ∧ Below w.heap.size w w' := by
 obtain ⟨c0, c1, c2, f0, f1, f2⟩ := h.cells
 clear h
 by_cases he : e = 0
 ·subst he
  by_cases hs : 0 < r.size
  ·have hD : doneE r 0 = 33 := by rw [doneE, if_pos ⟨rfl, hs⟩]
   rw [hD]
   clear hD
   go_enter Tryz.func189, Tryz.ntmps189
   go_wp2
   go_quiet (fail)
   go_wp2
   go_ret2
   exact ⟨rfl, below_drewN (Below.refl _ _) _⟩
  ·have hD : doneE r 0 = 0 := by rw [doneE, if_neg (fun q => hs q.2)]
   rw [hD]
   clear hD
   go_enter Tryz.func189, Tryz.ntmps189
   go_wp2
   go_quiet (fail)
   go_wp2
   go_ret2
   exact ⟨rfl, below_drewN (Below.refl _ _) _⟩
 ·have hD : doneE r e = e := by rw [doneE, if_neg (fun q => he q.1)]
  rw [hD]
  have hne : (e == 0) = false := by simp [he]
  clear hD
  go_enter Tryz.func189, Tryz.ntmps189
  go_wp2
  go_quiet (fail)
  go_wp2
  go_ret2
  exact ⟨rfl, below_drewN (Below.refl _ _) _⟩
end Go.Proofs.YtiellebdliifdaaGreatDoor
namespace Go.Proofs.YtiellebdliifdaaGreatDoor
open Go.RowKit
structure RSt where
 r : ByteArray
 t : Int
 e : Int
def stepR (s : RSt) (E : Int) (c : Nat) : RSt := if s.e = 0 then ⟨rRest s.r E c, rTak s.t E c, E⟩ else s
def Rds (w : World) (b : Nat) (s : RSt) : Prop := Rdr w b s.r s.t s.e
def RSt.ok (s : RSt) (N : Nat) : Prop := 0 ≤ s.t ∧ s.t + (s.r.size : Int) ≤ (N : Int)
theorem rRest_size (r : ByteArray) (E : Int) (c : Nat) : (rRest r E c).size = if E = 0 then r.size - c else 0 := by
 unfold rRest
 split
 ·simp
 ·rfl
theorem stepR_ok (s : RSt) (E : Int) (c N : Nat) (h : s.ok N) (hc : E = 0 → c ≤ s.r.size) : (stepR s E c).ok N := by
 unfold stepR
 split
 ·refine ⟨?_, ?_⟩
  ·show 0 ≤ rTak s.t E c
   have := h.1
   unfold rTak
   split <;> omega
  ·show rTak s.t E c + ((rRest s.r E c).size : Int) ≤ (N : Int)
   rw [rRest_size]
   have h1 := h.1
   have h2 := h.2
   unfold rTak
   split
   ·rename_i h0
    have := hc h0
    omega
   ·omega
 ·exact h
theorem numS (w : World) (b : Nat) (s : RSt) (h : Rds w b s) (hg : ETy w) (hN : s.ok 9223372036854775807) (bytes : Int) :
  Calls Tryz.prog 145 #[.pointer (some ⟨b, 0, none⟩), .int .i64 bytes] w fun ev w' => ev = .returned (.int .i64 (if s.e = 0 then numV bytes s.r else 0)) ∧ Rds w' b (stepR s (numE bytes s.r) (bytes.toNat)) ∧ Only (fun k => k = b) w w' := by
 by_cases he : s.e = 0
 ·have h' : Rdr w b s.r s.t 0 := by rw [← he]; exact h
  refine (rnum_any w b s.r s.t h' hg hN.1 hN.2 bytes).mono ?_
  rintro ev w' ⟨rfl, hR, hO⟩
  refine ⟨by rw [if_pos he], ?_, hO⟩
  unfold Rds stepR
  rw [if_pos he]
  exact hR
 ·refine (rNum_wrong w b s.r s.t s.e h he bytes).mono ?_
  rintro ev w' ⟨rfl, hR, hO⟩
  refine ⟨by rw [if_neg he], ?_, hO⟩
  unfold Rds stepR
  rw [if_neg he]
  exact hR
theorem rawS (w : World) (b : Nat) (s : RSt) (h : Rds w b s) (hg : ETy w) (hN : s.ok 9223372036854775807) (n : Int) :
  Calls Tryz.prog 146 #[.pointer (some ⟨b, 0, none⟩), .int .i64 n] w fun ev w' => ev = .returned (.string (if s.e = 0 then rawV n s.r else ⟨#[]⟩)) ∧ Rds w' b (stepR s (rawE n s.r) (n.toNat)) ∧ Only (fun k => k = b) w w' := by
 by_cases he : s.e = 0
 ·have h' : Rdr w b s.r s.t 0 := by rw [← he]; exact h
  refine (rraw_any w b s.r s.t h' hg hN.1 hN.2 n).mono ?_
  rintro ev w' ⟨rfl, hR, hO⟩
  refine ⟨by rw [if_pos he], ?_, hO⟩
  unfold Rds stepR
  rw [if_pos he]
  exact hR
 ·refine (rRaw_wrong w b s.r s.t s.e h he n).mono ?_
  rintro ev w' ⟨rfl, hR, hO⟩
  refine ⟨by rw [if_neg he], ?_, hO⟩
  unfold Rds stepR
  rw [if_neg he]
  exact hR
theorem numE_le (bytes : Int) (r : ByteArray) (h : numE bytes r = 0) : bytes.toNat ≤ r.size ∧ 1 ≤ bytes ∧ bytes ≤ 8 := by
 unfold numE at h
 split at h
 ·cases h
 ·split at h
  ·cases h
  ·omega
theorem rawE_le (n : Int) (r : ByteArray) (h : rawE n r = 0) : n.toNat ≤ r.size ∧ 0 ≤ n := by
 unfold rawE at h
 split at h
 ·cases h
 ·split at h
  ·cases h
  ·omega
theorem Rds.only {w w' : World} {b : Nat} {s : RSt} {P : Nat → Prop} (h : Rds w b s) (ho : Only P w w') (hp : ¬ P b) : Rds w' b s := Blk.only h ho hp
theorem Rds.ne {w : World} {b : Nat} {s : RSt} (h : Rds w b s) (hg : ETy w) : b ≠ 1 := hg.ne h
end Go.Proofs.YtiellebdliifdaaGreatDoor
namespace Go.Proofs.YtiellebdliifdaaGreatDoor
open Go.RowKit
theorem refuseP {w wr : World} {base b : Nat} {v : Value} {l : List Int} {e : Int} (h : WPost base b v l e w wr) (x : Int) :
  Calls Tryz.prog 154 #[.pointer (some ⟨b, 0, none⟩), .int .i64 x] wr fun ev w' => ev = .returned (.tuple #[]) ∧ WPost base b v (if e = 0 then [] else l) (if e = 0 then x else e) w w' := by
 obtain ⟨v1, h1, h2, h3⟩ := h
 exact (refuse_any wr base b v1 l e h1 x).mono (by rintro ev w' ⟨rfl, hp⟩; exact ⟨rfl, WPost.trans h2 h3 hp⟩)
set_option maxRecDepth 100000 in
set_option maxHeartbeats 2000000 in
theorem num_any (w : World) (base b : Nat) (v : Value) (l : List Int) (e : Int) (h : Wtr w base b v l e) (hb : base ≤ w.heap.size) (bytes : Int) (L : List Int) (p : Option Addr) (cap : Nat)
  (hp : L = [] ∨ ∃ lb lo, p = some ⟨lb, lo, none⟩ ∧ lb < w.heap.size ∧ ¬ Fp b v lb ∧ ∀ j, j < L.length → w.cell? ⟨lb, lo + j, none⟩ = some (.int .i64 (L.getD j 0)))
  (hsz : l.length + 8 * L.length ≤ 140737488355328) :
  Calls Tryz.prog 103 #[.pointer (some ⟨b, 0, none⟩), .int .i64 bytes, .slice p L.length cap] w fun ev w' => ev = .returned (.tuple #[]) ∧ WPost base b v (wl l e (errN bytes L) (outN bytes.toNat L)) (we e (errN bytes L)) w w' := by
 by_cases hw : 1 ≤ bytes ∧ bytes ≤ 8
 ·obtain ⟨k, rfl⟩ := Int.eq_ofNat_of_zero_le (show 0 ≤ bytes by omega)
  have HW := hide (fun W => isWidth_any (k : Int) W)
  rw [decide_eq_true hw] at HW
  obtain ⟨hk1, hk8⟩ := hw
  have hE : errN (k : Int) L = if ∀ n ∈ L, fitsP n k then 0 else 30 := by rw [errN, if_neg (by omega), Int.toNat_natCast]
  rw [Int.toNat_natCast]
  have HS := hide (show WPost base b v (wl l e 0 (outN k (L.take 0))) e w w by
   rw [List.take_zero, show outN k [] = [] from rfl, wl_nil]
   exact WPost.refl h)
  have HE := hide hE
  clear hE h
  have hk1' : 1 ≤ k := by omega
  have hk8' : k ≤ 8 := by omega
  clear hk1 hk8
  have HPT := hide hp
  clear hp
  generalize errN (k : Int) L = E at *
  go_enter Tryz.func103, Tryz.ntmps103
  go_wp2_with (go_at_call 153; refine (unhide HW _).mono ?_; rintro ev w' ⟨rfl, rfl⟩)
  go_loopw [16] (fun u wr => ∃ i : Nat, i ≤ L.length ∧ u = .int .i64 (i : Int) ∧ (∀ n ∈ L.take i, fitsP n k) ∧ WPost base b v (wl l e 0 (outN k (L.take i))) e w' wr) (fun u _ => L.length - (intOf u).toNat)
  case atStart => exact ⟨0, by omega, rfl, fun n hn => by simp at hn, unhide HS⟩
  case round =>
   obtain ⟨i, hi, rfl, hall, hP⟩ := hrel
   have HP := hide hP
   have HA := hide hall
   clear hP hall HS HW
   obtain ⟨wo, rfl⟩ : ∃ wo, wo = wr := ⟨_, rfl⟩
   by_cases hiL : i < L.length
   ·have hlen : (wl l e 0 (outN k (L.take i))).length + k ≤ 140737488355328 := by
     have h1 := wl_len l e (outN k (L.take i))
     rw [outN_len, List.length_take, Nat.min_eq_left (by omega)] at h1
     have h2 : k * i + k ≤ 8 * L.length := by
      have : k * (i + 1) ≤ 8 * L.length := Nat.mul_le_mul hk8' hiL
      rw [Nat.mul_succ] at this
      exact this
     omega
    obtain ⟨lb, lo, rfl, hlb, hfp, hc⟩ : ∃ lb lo, p = some ⟨lb, lo, none⟩ ∧ lb < w'.heap.size ∧ ¬ Fp b v lb ∧ ∀ j, j < L.length → w'.cell? ⟨lb, lo + j, none⟩ = some (.int .i64 (L.getD j 0)) := by
     rcases unhide HPT with h | h
     ·subst h; simp at hiL
     ·exact h
    have c1 : wo.cell? ⟨lb, lo + i, none⟩ = some (.int .i64 (L.getD i 0)) := by
     obtain ⟨v1, _, h2, _⟩ := unhide HP
     rw [World.cell?_of_block (w := w') (a := ⟨lb, lo + i, none⟩) (h2.2 lb hlb hfp)]
     exact hc i hiL
    have HN := hide (outN_snoc k L i hiL)
    have hmem : L.getD i 0 ∈ L := by
     rw [List.getD_eq_getElem?_getD, List.getElem?_eq_getElem hiL]
     exact List.getElem_mem _
    have HM := hide hmem
    have HT : Hid (L.take (i + 1) = L.take i ++ [L.getD i 0]) := hide (by rw [List.take_add_one, List.getElem?_eq_getElem hiL, List.getD_eq_getElem?_getD, List.getElem?_eq_getElem hiL]; rfl)
    clear hc hmem
    generalize L.getD i 0 = n at *
    have HF := hide (fun W => fits_any n k hk8' W)
    by_cases hf : fitsP n k
    ·rw [decide_eq_true hf] at HF
     go_wp2_with (go_at_call 147; refine (unhide HF _).mono ?_; rintro ev w1 ⟨rfl, rfl⟩)
     clear c1 HF
     go_loopw [8] (fun u wr => ∃ q j : Nat, q + j = k ∧ u = .int .i64 ((q : Int) - 1) ∧ WPost base b v (wl l e 0 (outN k (L.take i) ++ (numB n k).take j)) e w' wr) (fun u _ => ((intOf u) + 1).toNat)
     case atStart => exact ⟨k, 0, by omega, rfl, by rw [List.take_zero, List.append_nil]; exact unhide HP⟩
     case round =>
      obtain ⟨q, j, hqj, rfl, hP2⟩ := hrel
      have HP2 := hide hP2
      clear hP2 HP
      cases q with
      | zero =>
       have hj : j = k := by omega
       subst hj
       go_wp2
       go_roundw
       case rel => exact ⟨i + 1, by omega, by go_num, fun x hx => by
        rw [unhide HT] at hx
        rcases List.mem_append.1 hx with h | h
        ·exact unhide HA x h
        ·rw [List.mem_singleton.1 h]; exact hf, by rw [unhide HN, ← numB_all n j]; exact unhide HP2⟩
       case measure => simp [intOf]; omega
      | succ q =>
       have hq1 : ((q + 1 : Nat) : Int) - 1 = (q : Int) := by omega
       rw [hq1]
       have ht : (8 * (q : Int)).toNat = 8 * q := by omega
       have h64 : 8 * (q : Int) ≤ 64 := by omega
       have hl2 : (wl l e 0 (outN k (L.take i) ++ (numB n k).take j)).length + 1 ≤ 140737488355328 := by
        have h1 := wl_len (wl l e 0 (outN k (L.take i))) e ((numB n k).take j)
        rw [wl_two] at h1
        have h2 : ((numB n k).take j).length ≤ j := by simp; omega
        omega
       have HX := hide (numB_take n k j (by omega))
       rw [show k - 1 - j = q by omega] at HX
       have hq8 : q ≤ 8 := by omega
       clear hq1
       go_wp2_with (go_at_call 155; refine (lay1 (unhide HP2) (by assumption) _ _ hl2).mono ?_; rintro ev w2 ⟨rfl, hP3⟩; have HP3 := hide hP3; clear hP3)
       go_roundw
       case rel => exact ⟨q, j + 1, by omega, by go_num, by rw [unhide HX, ← List.append_assoc, ← wl_two]; exact unhide HP3⟩
       case measure => simp [intOf]
    ·rw [decide_eq_false hf] at HF
     have hEE : E = 30 := by rw [unhide HE, if_neg (fun q => hf (q n (unhide HM)))]
     go_wp2_with (first | (go_at_call 147; refine (unhide HF _).mono ?_; rintro ev w1 ⟨rfl, rfl⟩) | (go_at_call 154; refine (refuseP (unhide HP) 30).mono ?_; rintro ev w2 ⟨rfl, hP3⟩; have HP3 := hide hP3; clear hP3))
     (try simp only [Exit.inBlock, Exit.then])
     refine bodyPost_ret (results_none rfl _ _ _) rfl ⟨rfl, ?_⟩
     rw [← wl_bad l e E (outN k (L.take i)) _ (by omega), we, hEE]
     exact unhide HP3
   ·have hEE : E = 0 := by
     rw [unhide HE, if_pos (fun n hn => unhide HA n (by rw [List.take_of_length_le (by omega)]; exact hn))]
    have HPE : Hid (WPost base b v (wl l e E (outN k L)) (we e E) w' wo) := hide (by
     have := unhide HP
     rw [List.take_of_length_le (by omega)] at this
     rw [hEE, we_ok]
     exact this)
    clear hEE
    go_wp2
    go_end0
    exact ⟨rfl, unhide HPE⟩
 ·have HW := hide (fun W => isWidth_any bytes W)
  rw [decide_eq_false hw] at HW
  have hE : errN bytes L = 1 := by rw [errN, if_pos (by omega)]
  rw [hE]
  have HR := hide (refuse_any w base b v l e h 1)
  have e1 : (if e = 0 then [] else l) = wl l e 1 (outN bytes.toNat L) := by simp [wl]
  have e2 : (if e = 0 then (1 : Int) else e) = we e 1 := rfl
  rw [e1, e2] at HR
  generalize wl l e 1 (outN bytes.toNat L) = X at *
  generalize we e 1 = Y at *
  clear h hp hE e1 e2
  go_enter Tryz.func103, Tryz.ntmps103
  go_wp2_with (first | (go_at_call 153; refine (unhide HW _).mono ?_; rintro ev w1 ⟨rfl, rfl⟩) | (go_at_call 154; refine (unhide HR).mono ?_; rintro ev w2 ⟨rfl, hP3⟩; have HP3 := hide hP3; clear hP3))
  (try simp only [Exit.inBlock, Exit.then])
  exact bodyPost_ret (results_none rfl _ _ _) rfl ⟨rfl, unhide HP3⟩
theorem there_bsl {w : World} {base b cap : Nat} {L : List Int} (h : Bsl w base b cap L) : ∀ j, j < L.length → w.cell? ((⟨b, 0, none⟩ : Addr).add j) = some (.int .u8 (L.getD j 0)) := by
 intro j hj
 rw [Addr.add_mid]
 exact h.2.2.2.2.1.get j hj
set_option maxRecDepth 100000 in
set_option maxHeartbeats 1000000 in
theorem raw_any (w : World) (base b : Nat) (v : Value) (l : List Int) (e : Int) (h : Wtr w base b v l e) (hb : base ≤ w.heap.size) (s : ByteArray) (hsz : l.length + s.size ≤ 140737488355328) :
  Calls Tryz.prog 148 #[.pointer (some ⟨b, 0, none⟩), .string s] w fun ev w' => ev = .returned (.tuple #[]) ∧ WPost base b v (wl l e 0 (nums s)) e w w' := by
 obtain ⟨cap, W, hrun, hB, hbel⟩ := Bsl.of_string w s (by omega)
 have hO : Only (fun _ => False) w W := Only.of_below hbel
 have HL := hide (lay_any W base b v l e (h.only hO (fun _ _ q => q)) (Nat.le_trans hb hbel.size) ⟨w.heap.size, 0, none⟩ s.size cap (nums s) (nums_len s) (fun j hj => there_bsl hB j (by rw [nums_len]; exact hj)) hsz)
 rw [← wl_ok] at HL
 have HO := hide hO
 clear h hB hbel hO
 generalize wl l e 0 (nums s) = X at *
 go_enter Tryz.func148, Tryz.ntmps148
 go_wp2_with (go_at_call 155; refine (unhide HL).mono ?_; rintro ev w2 ⟨rfl, hP3⟩; have HP3 := hide hP3; clear hP3)
 go_end0
 exact ⟨rfl, WPost.trans (v1 := v) ((unhide HO).mono (fun _ _ q => q.elim)) (fun k hk => .inl hk) (unhide HP3)⟩
end Go.Proofs.YtiellebdliifdaaGreatDoor
namespace Go.Proofs.YtiellebdliifdaaGreatDoor
open Go.RowKit
theorem Arr.of_owns {w : World} {base g cap n : Nat} {l : List Int} (h : w.ownsRow base 5 1 (.slice (some ⟨g, 0, none⟩) n cap) l.length (l.map (Value.int .u8))) : Arr w g 0 .u8 l := by
 intro j hj
 rcases h.2 with ⟨h1, _⟩ | ⟨g', cap', cur, h1, _, hh, hn, _, hs, hx⟩
 ·cases h1
 ·obtain ⟨rfl, rfl, rfl⟩ : g = g' ∧ n = l.length ∧ cap = cap' := by simpa using h1
  rw [Nat.mul_one] at hs hx
  rw [Nat.zero_add, cell_of_row w g j cur 5 (0, 0) hh]
  refine ⟨?_, by simp [World.frozen?, hh]⟩
  have e : cur.toList[j]? = (l.map (Value.int .u8))[j]? := by rw [← hx, List.getElem?_take, if_pos hj]
  rw [← Array.getElem?_toList, e]
  simp [hj]
set_option maxRecDepth 100000 in
set_option maxHeartbeats 1000000 in
theorem done_any (w : World) (base b : Nat) (v : Value) (l : List Int) (e : Int) (h : Wtr w base b v l e) :
  Calls Tryz.prog 104 #[.pointer (some ⟨b, 0, none⟩)] w fun ev w' => ev = .returned (.tuple #[.string (strOfNums l), .int .i64 e]) ∧ Below w.heap.size w w' := by
 have hcv : ∃ p cap, v = .slice p l.length cap ∧ (convert 101 9 (.slice p l.length cap)).run Tryz.prog w.drew = .ok (.string (strOfNums l)) w.drew := by
  rcases h.2.1.2 with ⟨h1, h2⟩ | ⟨g, cap, cur, h1, _, hh, hn, _, hs, hx⟩
  ·obtain rfl : l = [] := List.eq_nil_of_length_eq_zero h2
   exact ⟨none, 0, h1, run_convert_bytes_nil (P := Tryz.prog) w.drew 101 5 Tryz.underlying101 Tryz.underlying5 0 0 9 Tryz.underlying9⟩
  ·subst h1
   have hA : Arr w g 0 .u8 l := Arr.of_owns h.2.1
   exact ⟨some ⟨g, 0, none⟩, cap, rfl, run_convert_bytes_arg (P := Tryz.prog) w.drew 101 5 Tryz.underlying101 Tryz.underlying5 g 0 l.length cap l rfl (fun i hi => hA.get i hi) 9 Tryz.underlying9⟩
 obtain ⟨p, cap, rfl, hcv⟩ := hcv
 have c0 : w.cell? ⟨b, 0, none⟩ = some (.slice p l.length cap) := by rw [h.1.cell 0]; rfl
 have c1 : w.cell? ⟨b, 1, none⟩ = some (.int .i64 e) := by rw [h.1.cell 1]; rfl
 clear h
 generalize strOfNums l = S at *
 go_enter Tryz.func104, Tryz.ntmps104
 go_wp2
 go_region
 all_goals (try go_wp2)
 all_goals (go_ret2; exact ⟨rfl, (Below.refl _ _).drew⟩)
end Go.Proofs.YtiellebdliifdaaGreatDoor
namespace Go.Proofs.YtiellebdliifdaaGreatDoor
open Go.RowKit
theorem WPost.below {w wr w2 : World} {base b : Nat} {v : Value} {l : List Int} {e : Int} (h : WPost base b v l e w wr) (hb : Below wr.heap.size wr w2) : WPost base b v l e w w2 := by
 obtain ⟨v1, h1, h2, h3⟩ := h
 have hO : Only (fun _ => False) wr w2 := Only.of_below hb
 exact ⟨v1, h1.only hO (fun _ _ q => q), h2.trans hO (fun _ _ q => q.elim), h3⟩
theorem WPost.only {w wr w2 : World} {base b : Nat} {v : Value} {l : List Int} {e : Int} {P : Nat → Prop} (h : WPost base b v l e w wr) (hO : Only P wr w2) (hp : ∀ k, P k → k < w.heap.size ∧ ¬ Fp b v k) (hb : b < w.heap.size) : ∃ v', Wtr w2 base b v' l e ∧ (∀ k, v'.ownBlock = some k → v.ownBlock = some k ∨ w.heap.size ≤ k) := by
 obtain ⟨v1, h1, h2, h3⟩ := h
 refine ⟨v1, h1.only hO (fun k hk hpk => ?_), h3⟩
 obtain ⟨q1, q2⟩ := hp k hpk
 rcases hk with rfl | hk
 ·exact q2 (.inl rfl)
 ·rcases h3 k hk with h | h
  ·exact q2 (.inr h)
  ·omega
theorem WPost.alloc {w wr : World} {base b : Nat} {v : Value} {l : List Int} {e : Int} (h : WPost base b v l e w wr) (o : Obj) : WPost base b v l e w (wr.alloc o) := h.below ((Below.refl _ _).alloc (Nat.le_refl _) o)
theorem WPost.size {w wr : World} {base b : Nat} {v : Value} {l : List Int} {e : Int} (h : WPost base b v l e w wr) : w.heap.size ≤ wr.heap.size := by obtain ⟨_, _, h2, _⟩ := h; exact h2.size
theorem WPost.blk {w wr : World} {base b : Nat} {v : Value} {l : List Int} {e : Int} (h : WPost base b v l e w wr) {k : Nat} {cur : Array Value} {T : TypeId} (hB : Blk w k cur T) (hk : ¬ Fp b v k) : Blk wr k cur T := by obtain ⟨_, _, h2, _⟩ := h; exact hB.only h2 hk
theorem rawK {w wr : World} {base b : Nat} {v : Value} {l : List Int} {e : Int} (h : WPost base b v l e w wr) (hb : base ≤ w.heap.size) (s : ByteArray) (hsz : l.length + s.size ≤ 140737488355328) :
  Calls Tryz.prog 148 #[.pointer (some ⟨b, 0, none⟩), .string s] wr fun ev w' => ev = .returned (.tuple #[]) ∧ WPost base b v (wl l e 0 (nums s)) e w w' := by
 obtain ⟨v1, h1, h2, h3⟩ := h
 exact (raw_any wr base b v1 l e h1 (Nat.le_trans hb h2.size) s hsz).mono (by rintro ev w' ⟨rfl, hp⟩; exact ⟨rfl, WPost.trans h2 h3 hp⟩)
theorem numK {w wr : World} {base b : Nat} {v : Value} {l : List Int} {e : Int} (h : WPost base b v l e w wr) (hb : base ≤ w.heap.size) (bytes : Int) (L : List Int) (cur : Array Value) (hc : cur = (L.map (Value.int .i64)).toArray) (hsz : l.length + 8 * L.length ≤ 140737488355328) (m : Nat) (hm : m = L.length) :
  Calls Tryz.prog 103 #[.pointer (some ⟨b, 0, none⟩), .int .i64 bytes, .slice (some ⟨wr.heap.size, 0, none⟩) m m] (wr.alloc (Obj.cells cur 3)) fun ev w' => ev = .returned (.tuple #[]) ∧ WPost base b v (wl l e (errN bytes L) (outN bytes.toNat L)) (we e (errN bytes L)) w w' := by
 subst hc hm
 obtain ⟨v1, h1, h2, h3⟩ := h
 have hA := (Only.refl (fun _ => False) wr).alloc (Obj.cells (L.map (Value.int .i64)).toArray 3)
 have hB := Blk.new wr 3 (L.map (Value.int .i64)).toArray
 refine (num_any (wr.alloc (Obj.cells (L.map (Value.int .i64)).toArray 3)) base b v1 l e (h1.only hA (fun _ _ q => q)) (by have := h2.size; simp; omega) bytes L (some ⟨wr.heap.size, 0, none⟩) L.length (.inr ⟨wr.heap.size, 0, rfl, by simp, ?_, fun j hj => ?_⟩) hsz).mono ?_
 ·rintro (hq | hq)
  ·have := h1.lt; omega
  ·have := (h1.2.1.lt _ hq).2; omega
 ·rw [Nat.zero_add, hB.cell j]
  simp [hj]
 ·rintro ev w' ⟨rfl, hp⟩
  exact ⟨rfl, WPost.trans (h2.alloc _) h3 hp⟩
theorem doneK {w wr : World} {base b : Nat} {v : Value} {l : List Int} {e : Int} (h : WPost base b v l e w wr) :
  Calls Tryz.prog 104 #[.pointer (some ⟨b, 0, none⟩)] wr fun ev w' => ev = .returned (.tuple #[.string (strOfNums l), .int .i64 e]) ∧ WPost base b v l e w w' := by
 have h' := h
 obtain ⟨v1, h1, h2, h3⟩ := h
 exact (done_any wr base b v1 l e h1).mono (by rintro ev w' ⟨rfl, hb⟩; exact ⟨rfl, h'.below hb⟩)
theorem wl_good (l out : List Int) : wl l 0 0 out = l ++ out := by simp [wl]
theorem we_good : we 0 0 = 0 := rfl
end Go.Proofs.YtiellebdliifdaaGreatDoor
namespace Go.Proofs.YtiellebdliifdaaGreatDoor
open Go.RowKit
def cstep (v : Nat) : Nat := (v / 2) ^^^ (if v % 2 = 1 then 3988292384 else 0)
def iter (n : Nat) (v : Nat) : Nat := match n with
 | 0 => v
 | n + 1 => iter n (cstep v)
theorem iter_add (n m v : Nat) : iter (n + m) v = iter m (iter n v) := by
 induction n generalizing v with
 | zero => simp [iter]
 | succ n ih => rw [Nat.succ_add, iter, ih, iter]
theorem cstep_lt (v : Nat) (h : v < 4294967296) : cstep v < 4294967296 := by
 unfold cstep
 refine Nat.xor_lt_two_pow (n := 32) (by omega) ?_
 split <;> omega
theorem iter_lt (n v : Nat) (h : v < 4294967296) : iter n v < 4294967296 := by
 induction n generalizing v with
 | zero => exact h
 | succ n ih => exact ih _ (cstep_lt v h)
def cbyte (v b : Nat) : Nat := iter 8 (v ^^^ b)
def crcR (v : Nat) (l : List Nat) : Nat := l.foldl cbyte v
theorem cbyte_lt (v b : Nat) (hv : v < 4294967296) (hb : b < 256) : cbyte v b < 4294967296 :=
 iter_lt _ _ (Nat.xor_lt_two_pow (n := 32) (by omega) (by omega))
end Go.Proofs.YtiellebdliifdaaGreatDoor
namespace Go.Proofs.YtiellebdliifdaaGreatDoor
open Go.RowKit
def nats (l : List Int) : List Nat := l.map Int.toNat
def chkN (l : List Int) : Nat := 4294967295 - crcR 4294967295 (nats l)
theorem crcR_lt (l : List Nat) (hl : ∀ x ∈ l, x < 256) (v : Nat) (hv : v < 4294967296) : crcR v l < 4294967296 := by
 induction l generalizing v with
 | nil => exact hv
 | cons b l ih => exact ih (fun x hx => hl x (by simp [hx])) _ (cbyte_lt v b hv (hl b (by simp)))
theorem nats_lt (l : List Int) (h : Bytes l) : ∀ x ∈ nats l, x < 256 := by
 intro x hx
 obtain ⟨y, hy, rfl⟩ := List.mem_map.1 hx
 obtain ⟨j, hj, e⟩ := List.getElem_of_mem hy
 have := h j
 rw [List.getD_eq_getElem?_getD, List.getElem?_eq_getElem hj, e] at this
 simp at this
 omega
theorem iter_succ' (n v : Nat) : iter (n + 1) v = cstep (iter n v) := by rw [iter_add]; rfl
theorem nums_nat (s : ByteArray) (i : Nat) (hi : i < s.size) : ∃ B : Nat, B < 256 ∧ (nums s).getD i 0 = (B : Int) ∧ nats ((nums s).take (i + 1)) = nats ((nums s).take i) ++ [B] := by
 have hb := nums_bytes s i
 refine ⟨((nums s).getD i 0).toNat, by omega, by omega, ?_⟩
 have hl : i < (nums s).length := by rw [nums_len]; exact hi
 rw [List.take_add_one, List.getElem?_eq_getElem hl, nats, nats, List.map_append, List.getD_eq_getElem?_getD, List.getElem?_eq_getElem hl]
 rfl
theorem xor_all (v : Nat) (h : v < 4294967296) : v ^^^ 4294967295 = 4294967295 - v := by
 have h1 : (4294967295 : Nat) = 2 ^ 32 - 1 := by decide
 have h2 : v ^^^ (2 ^ 32 - 1) = 2 ^ 32 - 1 - v := by
  apply Nat.eq_of_testBit_eq
  intro i
  rw [Nat.testBit_xor, Nat.testBit_two_pow_sub_one, show 2 ^ 32 - 1 - v = 2 ^ 32 - (v + 1) by omega, Nat.testBit_two_pow_sub_succ (by omega)]
  by_cases hi : i < 32
  ·simp [hi]
  ·have : v.testBit i = false := Nat.testBit_lt_two_pow (Nat.lt_of_lt_of_le h (by exact Nat.pow_le_pow_right (n := 2) (by decide) (show 32 ≤ i by omega)))
   simp [hi, this]
 rw [h1]; exact h2
set_option maxRecDepth 100000 in
set_option maxHeartbeats 1000000 in
theorem check_g (s : ByteArray) (G : Nat) (hG : G = chkN (nums s)) (hs : s.size ≤ 9223372036854775806) (w : World) :
  Calls Tryz.prog 149 #[.string s] w fun e w' => e = .returned (.int .i64 (G : Int)) ∧ w' = w := by
 have HG := hide hG
 clear hG
 have hix := fun (i : Nat) (hi : i < s.size) (W : World) => index_str s i hi W
 go_enter Tryz.func149, Tryz.ntmps149
 go_wp2
 go_loopw [3, 8] (fun c i wr => ∃ n : Nat, n ≤ s.size ∧ i = .int .i64 (n : Int) ∧ c = .int .u32 (crcR 4294967295 (nats ((nums s).take n)) : Int) ∧ wr = w) (fun _ i _ => s.size - (intOf i).toNat)
 case atStart => exact ⟨0, by omega, rfl, rfl, rfl⟩
 case round =>
  obtain ⟨n, hn, rfl, rfl, rfl⟩ := hrel
  obtain ⟨wo, rfl⟩ : ∃ wo, wo = wr := ⟨_, rfl⟩
  have hlt := crcR_lt (nats ((nums s).take n)) (nats_lt _ (fun j => by
   have := nums_bytes s j
   rw [List.getD_eq_getElem?_getD, List.getElem?_take]
   split
   ·rw [← List.getD_eq_getElem?_getD]; exact this
   ·simp)) 4294967295 (by omega)
  by_cases hns : n < s.size
  ·obtain ⟨B, hB, hBe, hBt⟩ := nums_nat s n hns
   have hi2 := hix n hns
   rw [hBe] at hi2
   have HT := hide hBt
   have HC := hide (show crcR 4294967295 (nats ((nums s).take (n + 1))) = cbyte (crcR 4294967295 (nats ((nums s).take n))) B by rw [hBt, crcR, List.foldl_append]; rfl)
   clear hBt hBe hix
   generalize crcR 4294967295 (nats ((nums s).take n)) = V at *
   have hw8 : IntKind.u32.wrap (B : Int) = (B : Int) := by rw [IntKind.wrap_u32']; omega
   have hx := u32_xor_nat V B hlt (by omega)
   have hxl : V ^^^ B < 4294967296 := Nat.xor_lt_two_pow (n := 32) (by omega) (by omega)
   go_wp2
   go_loopw [3, 17] (fun c i wr => ∃ k : Nat, k ≤ 8 ∧ i = .int .i64 (k : Int) ∧ c = .int .u32 (iter k (V ^^^ B) : Int) ∧ wr = wo) (fun _ i _ => 8 - (intOf i).toNat)
   case atStart => exact ⟨0, by omega, rfl, rfl, rfl⟩
   case round =>
    obtain ⟨k, hk, rfl, rfl, rfl⟩ := hrel
    have hl := iter_lt k (V ^^^ B) hxl
    have HS := hide (iter_succ' k (V ^^^ B))
    by_cases hk8 : k < 8
    ·generalize iter k (V ^^^ B) = U at *
     have ha0 := u32_and_nat U 1 hl (by omega)
     rw [Nat.and_one_is_mod] at ha0
     have ha : bits .and .u32 (U : Int) 1 = ((U % 2 : Nat) : Int) := ha0
     have HX2 := hide (u32_xor_nat (U / 2) 3988292384 (by omega) (by omega))
     clear ha0
     rcases Nat.mod_two_eq_zero_or_one U with h | h
     ·rw [h] at ha
      go_wp2
      go_roundw
      case rel => exact ⟨k + 1, by omega, by go_num, by rw [unhide HS, cstep, if_neg (by omega), Nat.xor_zero]; simp, trivial⟩
      case measure => simp [intOf]; omega
     ·rw [h] at ha
      go_wp2
      go_roundw
      case rel => exact ⟨k + 1, by omega, by go_num, by rw [unhide HS, cstep, if_pos h, ← unhide HX2]; rfl, trivial⟩
      case measure => simp [intOf]; omega
    ·obtain rfl : k = 8 := by omega
     go_wp2
     go_roundw
     case rel => exact ⟨n + 1, by omega, by go_num, by rw [unhide HC]; rfl, trivial⟩
     case measure => simp [intOf]; omega
  ·have HF := hide (show G = 4294967295 - crcR 4294967295 (nats ((nums s).take n)) by rw [unhide HG, chkN, List.take_of_length_le (by rw [nums_len]; omega)])
   have HX := hide (xor_all _ hlt)
   clear hix HG
   generalize crcR 4294967295 (nats ((nums s).take n)) = V at *
   have hx0 := u32_xor_nat 4294967295 V (by omega) hlt
   rw [Nat.xor_comm, unhide HX] at hx0
   have hx : bits .xor .u32 4294967295 (V : Int) = ((4294967295 - V : Nat) : Int) := hx0
   clear hx0
   obtain ⟨R, hR⟩ : ∃ R, R = 4294967295 - V := ⟨_, rfl⟩
   have hRl : R < 4294967296 := by omega
   rw [← hR] at hx HF
   have HW := hide (show wrap64 (bits .xor .u32 IntKind.u32.max (V : Int)) = (R : Int) by
    have hm : (IntKind.u32.max : Int) = 4294967295 := by decide
    rw [hm, hx]; exact wrap64_eq _ (by omega) (by omega))
   clear hR HX hx
   go_wp2
   go_ret
   refine ⟨?_, rfl⟩
   rw [unhide HF, ← unhide HW]
   rfl
end Go.Proofs.YtiellebdliifdaaGreatDoor
namespace Go.Proofs.YtiellebdliifdaaGreatDoor
open Go.RowKit
def le4 (c : Nat) : List Int := [((c % 256 : Nat) : Int), ((c / 256 % 256 : Nat) : Int), ((c / 65536 % 256 : Nat) : Int), ((c / 16777216 : Nat) : Int)]
def pageL (kind number : Int) (body : List Int) : List Int := [83, 66] ++ (numB kind 1 ++ numB (body.length : Int) 1) ++ numB number 4 ++ body ++ List.replicate (244 - body.length) 0
def makeL (kind number : Int) (body : List Int) : List Int := pageL kind number body ++ le4 (chkN (pageL kind number body))
def errM (kind number : Int) (n : Nat) : Int := if ¬ fitsP kind 1 ∨ ¬ fitsP number 4 then 1 else if 244 < n then 32 else 0
def makeB (kind number : Int) (body : ByteArray) : ByteArray := if errM kind number body.size = 0 then strOfNums (makeL kind number (nums body)) else ⟨#[]⟩
theorem pageL_len (kind number : Int) (body : List Int) (h : body.length ≤ 244) : (pageL kind number body).length = 252 := by simp [pageL, numB_len]; omega
theorem makeL_len (kind number : Int) (body : List Int) (h : body.length ≤ 244) : (makeL kind number body).length = 256 := by rw [makeL, List.length_append, pageL_len _ _ _ h]; rfl
theorem Bytes.app {a b : List Int} (ha : Bytes a) (hb : Bytes b) : Bytes (a ++ b) := by
 intro j
 rw [List.getD_eq_getElem?_getD, List.getElem?_append]
 split
 ·rw [← List.getD_eq_getElem?_getD]; exact ha j
 ·rw [← List.getD_eq_getElem?_getD]; exact hb _
theorem Bytes.of_mem {a : List Int} (h : ∀ x ∈ a, 0 ≤ x ∧ x < 256) : Bytes a := by
 intro j
 rw [List.getD_eq_getElem?_getD]
 cases e : a[j]? with
 | none => simp
 | some x => exact h x (List.mem_of_getElem? e)
theorem Bytes.mem {a : List Int} (h : Bytes a) {x : Int} (hx : x ∈ a) : 0 ≤ x ∧ x < 256 := by
 obtain ⟨j, hj, e⟩ := List.getElem_of_mem hx
 have := h j
 rw [List.getD_eq_getElem?_getD, List.getElem?_eq_getElem hj, e] at this
 simpa using this
theorem chkN_lt (l : List Int) : chkN l ≤ 4294967295 := by unfold chkN; omega
theorem le4_bytes (c : Nat) (h : c ≤ 4294967295) : Bytes (le4 c) := Bytes.of_mem (by
 intro x hx
 simp [le4] at hx
 rcases hx with rfl | rfl | rfl | rfl <;> omega)
theorem zeros_byte (n : Nat) : Bytes (List.replicate n 0) := Bytes.of_mem (by intro x hx; rw [(List.mem_replicate.1 hx).2]; omega)
theorem pageL_bytes (kind number : Int) (body : List Int) (h : Bytes body) : Bytes (pageL kind number body) :=
 ((((Bytes.of_mem (by intro x hx; simp at hx; omega)).app ((numB_bytes _ _).app (numB_bytes _ _))).app (numB_bytes _ _)).app h).app (zeros_byte _)
theorem makeL_bytes (kind number : Int) (body : List Int) (h : Bytes body) : Bytes (makeL kind number body) := (pageL_bytes _ _ _ h).app (le4_bytes _ (chkN_lt _))
theorem fits1 (x : Int) : fitsP x 1 ↔ 0 ≤ x ∧ x ≤ 255 := by
 unfold fitsP
 rw [show (2 : Int) ^ (8 * 1) = 256 by decide]
 omega
theorem fits4 (x : Int) : fitsP x 4 ↔ 0 ≤ x ∧ x ≤ 4294967295 := by
 unfold fitsP
 rw [show (2 : Int) ^ (8 * 4) = 4294967296 by decide]
 omega
theorem numB1 (x : Int) (h0 : 0 ≤ x) (h : x ≤ 255) : numB x 1 = [x] := by
 simp [numB, List.range_succ]
 omega
theorem i64_and255 (c : Nat) (h : c < 9223372036854775808) : bits .and .i64 (c : Int) 255 = ((c % 256 : Nat) : Int) := by
 have hx : c &&& 255 = c % 256 := Nat.and_two_pow_sub_one_eq_mod c 8
 have h1 : (BitVec.ofInt 64 (c : Int)).toNat = c := by
  rw [BitVec.ofInt_natCast, BitVec.toNat_ofNat]; exact Nat.mod_eq_of_lt (by omega)
 have h2 : (BitVec.ofInt 64 (255 : Int)).toNat = 255 := by decide
 show IntKind.i64.wrap ((BitVec.ofInt 64 (c : Int) &&& BitVec.ofInt 64 (255 : Int)).toNat : Int) = _
 rw [BitVec.toNat_and, h1, h2, hx, IntKind.wrap_i64]
 omega
end Go.Proofs.YtiellebdliifdaaGreatDoor
