import Derived.Test.YtdpnbemagiekoaaGreatDoorMe03
import Derived.BigQuiet
import Derived.WalkKit
set_option maxHeartbeats 4000000
set_option maxRecDepth 100000
namespace Go.Proofs.YtdpnbemagiekoaaGreatDoor
section
open Go.RowKit
structure RSt where
 r : ByteArray
 t : Int
 e : Int
def zBJ (s : RSt) (E : Int) (c : Nat) : RSt := if s.e = 0 then ⟨zBY s.r E c, rTak s.t E c, E⟩ else s
def Rds (w : World) (b : Nat) (s : RSt) : Prop := Rdr w b s.r s.t s.e
def RSt.ok (s : RSt) (N : Nat) : Prop := 0 <= s.t /\ s.t + (s.r.size : Int) <= (N : Int)
theorem zJs (r : ByteArray) (E : Int) (c : Nat) : (zBY r E c).size = if E = 0 then r.size - c else 0 := by
 unfold zBY
 split
 ·simp
 ·rfl
theorem zDa (s : RSt) (E : Int) (c N : Nat) (h : s.ok N) (hc : E = 0 -> c <= s.r.size) : (zBJ s E c).ok N := by
 unfold zBJ
 split
 ·refine ⟨?_, ?_⟩
  ·show 0 <= rTak s.t E c
   have := h.1
   unfold rTak
   split <;> omega
  ·show rTak s.t E c + ((zBY s.r E c).size : Int) <= (N : Int)
   rw [zJs]
   have h1 := h.1
   have h2 := h.2
   unfold rTak
   split
   ·rename_i h0
    have := hc h0
    omega
   ·omega
 ·exact h
theorem numS (w : World) (b : Nat) (s : RSt) (h : Rds w b s) (hg : ETy w) (hN : s.ok 9223372036854775807) (bytes : Int) :
  Calls Tryz.prog 193 #[.pointer (some ⟨b, 0, none⟩), .int .i64 bytes] w fun ev w' => ev = .returned (.int .i64 (if s.e = 0 then numV bytes s.r else 0)) /\ Rds w' b (zBJ s (numE bytes s.r) (bytes.toNat)) /\ Only (fun k => k = b) w w' := by
 by_cases he : s.e = 0
 ·have h' : Rdr w b s.r s.t 0 := by rw [<- he]; exact h
  refine (zMa w b s.r s.t h' hg hN.1 hN.2 bytes).mono ?_
  rintro ev w' ⟨rfl, hR, hO⟩
  refine ⟨by rw [if_pos he], ?_, hO⟩
  unfold Rds zBJ
  rw [if_pos he]
  exact hR
 ·refine (zJf w b s.r s.t s.e h he bytes).mono ?_
  rintro ev w' ⟨rfl, hR, hO⟩
  refine ⟨by rw [if_neg he], ?_, hO⟩
  unfold Rds zBJ
  rw [if_neg he]
  exact hR
theorem rawS (w : World) (b : Nat) (s : RSt) (h : Rds w b s) (hg : ETy w) (hN : s.ok 9223372036854775807) (n : Int) :
  Calls Tryz.prog 194 #[.pointer (some ⟨b, 0, none⟩), .int .i64 n] w fun ev w' => ev = .returned (.string (if s.e = 0 then rawV n s.r else ⟨#[]⟩)) /\ Rds w' b (zBJ s (rawE n s.r) (n.toNat)) /\ Only (fun k => k = b) w w' := by
 by_cases he : s.e = 0
 ·have h' : Rdr w b s.r s.t 0 := by rw [<- he]; exact h
  refine (zMD w b s.r s.t h' hg hN.1 hN.2 n).mono ?_
  rintro ev w' ⟨rfl, hR, hO⟩
  refine ⟨by rw [if_pos he], ?_, hO⟩
  unfold Rds zBJ
  rw [if_pos he]
  exact hR
 ·refine (zJK w b s.r s.t s.e h he n).mono ?_
  rintro ev w' ⟨rfl, hR, hO⟩
  refine ⟨by rw [if_neg he], ?_, hO⟩
  unfold Rds zBJ
  rw [if_neg he]
  exact hR
theorem zGi (bytes : Int) (r : ByteArray) (h : numE bytes r = 0) : bytes.toNat <= r.size /\ 1 <= bytes /\ bytes <= 8 := by
 unfold numE at h
 split at h
 ·cases h
 ·split at h
  ·cases h
  ·omega
theorem zNT (n : Int) (r : ByteArray) (h : rawE n r = 0) : n.toNat <= r.size /\ 0 <= n := by
 unfold rawE at h
 split at h
 ·cases h
 ·split at h
  ·cases h
  ·omega
theorem Rds.only {w w' : World} {b : Nat} {s : RSt} {P : Nat -> Prop} (h : Rds w b s) (ho : Only P w w') (hp : ¬ P b) : Rds w' b s := Blk.only h ho hp
theorem Rds.ne {w : World} {b : Nat} {s : RSt} (h : Rds w b s) (hg : ETy w) : b ≠ 6 := hg.ne h
end
section
open Go.RowKit
theorem zN4 {w wr : World} {base b : Nat} {v : Value} {l : List Int} {e : Int} (h : WPost base b v l e w wr) (x : Int) :
  Calls Tryz.prog 245 #[.pointer (some ⟨b, 0, none⟩), .int .i64 x] wr fun ev w' => ev = .returned (.tuple #[]) /\ WPost base b v (if e = 0 then [] else l) (if e = 0 then x else e) w w' := by
 obtain ⟨v1, h1, h2, h3⟩ := h
 exact (zFj wr base b v1 l e h1 x).mono (by rintro ev w' ⟨rfl, hp⟩; exact ⟨rfl, WPost.trans h2 h3 hp⟩)
theorem zJY (w : World) (base b : Nat) (v : Value) (l : List Int) (e : Int) (h : Wtr w base b v l e) (hb : base <= w.heap.size) (bytes : Int) (L : List Int) (p : Option Addr) (cap : Nat)
  (hp : L = [] ∨ ∃ lb lo, p = some ⟨lb, lo, none⟩ /\ lb < w.heap.size /\ ¬ Fp b v lb /\ ∀ j, j < L.length -> w.cell? ⟨lb, lo + j, none⟩ = some (.int .i64 (L.getD j 0)))
  (hsz : l.length + 8 * L.length <= 140737488355328) :
  Calls Tryz.prog 167 #[.pointer (some ⟨b, 0, none⟩), .int .i64 bytes, .slice p L.length cap] w fun ev w' => ev = .returned (.tuple #[]) /\ WPost base b v (wl l e (errN bytes L) (outN bytes.toNat L)) (we e (errN bytes L)) w w' := by
 by_cases hw : 1 <= bytes /\ bytes <= 8
 ·obtain ⟨k, rfl⟩ := Int.eq_ofNat_of_zero_le (show 0 <= bytes by omega)
  have HW := uB (fun W => zCY (k : Int) W)
  rw [decide_eq_true hw] at HW
  obtain ⟨hk1, hk8⟩ := hw
  have hE : errN (k : Int) L = if ∀ n ∈ L, zAJ n k then 0 else 30 := by rw [errN, if_neg (by omega), Int.toNat_natCast]
  rw [Int.toNat_natCast]
  have HS := uB (show WPost base b v (wl l e 0 (outN k (L.take 0))) e w w by
   rw [List.take_zero, show outN k [] = [] from rfl, zPg]
   exact WPost.refl h)
  have HE := uB hE
  clear hE h
  have hk1' : 1 <= k := by omega
  have hk8' : k <= 8 := by omega
  clear hk1 hk8
  have HPT := uB hp
  clear hp
  generalize errN (k : Int) L = E at *
  go_enter Tryz.func167, Tryz.ntmps167
  go_wp2_with (go_at_call 244; refine (uA HW _).mono ?_; rintro ev w' ⟨rfl, rfl⟩)
  go_loopw [16] (fun u wr => ∃ i : Nat, i <= L.length /\ u = .int .i64 (i : Int) /\ (∀ n ∈ L.take i, zAJ n k) /\ WPost base b v (wl l e 0 (outN k (L.take i))) e w' wr) (fun u _ => L.length - (intOf u).toNat)
  case atStart => exact ⟨0, by omega, rfl, fun n hn => by simp at hn, uA HS⟩
  case round =>
   obtain ⟨i, hi, rfl, hall, hP⟩ := hrel
   have HP := uB hP
   have HA := uB hall
   clear hP hall HS HW
   obtain ⟨wo, rfl⟩ : ∃ wo, wo = wr := ⟨_, rfl⟩
   by_cases hiL : i < L.length
   ·have hlen : (wl l e 0 (outN k (L.take i))).length + k <= 140737488355328 := by
     have h1 := zM8 l e (outN k (L.take i))
     rw [zDz, List.length_take, Nat.min_eq_left (by omega)] at h1
     have h2 : k * i + k <= 8 * L.length := by
      have : k * (i + 1) <= 8 * L.length := Nat.mul_le_mul hk8' hiL
      rw [Nat.mul_succ] at this
      exact this
     omega
    obtain ⟨lb, lo, rfl, hlb, hfp, hc⟩ : ∃ lb lo, p = some ⟨lb, lo, none⟩ /\ lb < w'.heap.size /\ ¬ Fp b v lb /\ ∀ j, j < L.length -> w'.cell? ⟨lb, lo + j, none⟩ = some (.int .i64 (L.getD j 0)) := by
     rcases uA HPT with h | h
     ·subst h; simp at hiL
     ·exact h
    have c1 : wo.cell? ⟨lb, lo + i, none⟩ = some (.int .i64 (L.getD i 0)) := by
     obtain ⟨v1, _, h2, _⟩ := uA HP
     rw [World.cell?_of_block (w := w') (a := ⟨lb, lo + i, none⟩) (h2.2 lb hlb hfp)]
     exact hc i hiL
    have HN := uB (zLj k L i hiL)
    have hmem : L.getD i 0 ∈ L := by
     rw [List.getD_eq_getElem?_getD, List.getElem?_eq_getElem hiL]
     exact List.getElem_mem _
    have HM := uB hmem
    have HT : Hid (L.take (i + 1) = L.take i ++ [L.getD i 0]) := uB (by rw [List.take_add_one, List.getElem?_eq_getElem hiL, List.getD_eq_getElem?_getD, List.getElem?_eq_getElem hiL]; rfl)
    clear hc hmem
    generalize L.getD i 0 = n at *
    have HF := uB (fun W => zBP n k hk8' W)
    by_cases hf : zAJ n k
    ·rw [decide_eq_true hf] at HF
     go_wp2_with (go_at_call 246; refine (uA HF _).mono ?_; rintro ev w1 ⟨rfl, rfl⟩)
     clear c1 HF
     go_loopw [8] (fun u wr => ∃ q j : Nat, q + j = k /\ u = .int .i64 ((q : Int) - 1) /\ WPost base b v (wl l e 0 (outN k (L.take i) ++ (numB n k).take j)) e w' wr) (fun u _ => ((intOf u) + 1).toNat)
     case atStart => exact ⟨k, 0, by omega, rfl, by rw [List.take_zero, List.append_nil]; exact uA HP⟩
     case round =>
      obtain ⟨q, j, hqj, rfl, hP2⟩ := hrel
      have HP2 := uB hP2
      clear hP2 HP
      cases q with
      | zero =>
       have hj : j = k := by omega
       subst hj
       go_wp2
       go_roundw
       case rel => exact ⟨i + 1, by omega, by go_num, fun x hx => by
        rw [uA HT] at hx
        rcases List.mem_append.1 hx with h | h
        ·exact uA HA x h
        ·rw [List.mem_singleton.1 h]; exact hf, by rw [uA HN, <- zGm n j]; exact uA HP2⟩
       case measure => simp [intOf]; omega
      | succ q =>
       have hq1 : ((q + 1 : Nat) : Int) - 1 = (q : Int) := by omega
       rw [hq1]
       have ht : (8 * (q : Int)).toNat = 8 * q := by omega
       have h64 : 8 * (q : Int) <= 64 := by omega
       have hl2 : (wl l e 0 (outN k (L.take i) ++ (numB n k).take j)).length + 1 <= 140737488355328 := by
        have h1 := zM8 (wl l e 0 (outN k (L.take i))) e ((numB n k).take j)
        rw [zNp] at h1
        have h2 : ((numB n k).take j).length <= j := by simp; omega
        omega
       have HX := uB (zGJ n k j (by omega))
       rw [show k - 1 - j = q by omega] at HX
       have hq8 : q <= 8 := by omega
       clear hq1
       go_wp2_with (go_at_call 247; refine (lay1 (uA HP2) (by assumption) _ _ hl2).mono ?_; rintro ev w2 ⟨rfl, hP3⟩; have HP3 := uB hP3; clear hP3)
       go_roundw
       case rel => exact ⟨q, j + 1, by omega, by go_num, by rw [uA HX, <- List.append_assoc, <- zNp]; exact uA HP3⟩
       case measure => simp [intOf]
    ·rw [decide_eq_false hf] at HF
     have hEE : E = 30 := by rw [uA HE, if_neg (fun q => hf (q n (uA HM)))]
     go_wp2_with (first | (go_at_call 246; refine (uA HF _).mono ?_; rintro ev w1 ⟨rfl, rfl⟩) | (go_at_call 245; refine (zN4 (uA HP) 30).mono ?_; rintro ev w2 ⟨rfl, hP3⟩; have HP3 := uB hP3; clear hP3))
     (try simp only [Exit.inBlock, Exit.then])
     refine bodyPost_ret (results_none rfl _ _ _) rfl ⟨rfl, ?_⟩
     rw [<- zPx l e E (outN k (L.take i)) _ (by omega), we, hEE]
     exact uA HP3
   ·have hEE : E = 0 := by
     rw [uA HE, if_pos (fun n hn => uA HA n (by rw [List.take_of_length_le (by omega)]; exact hn))]
    have HPE : Hid (WPost base b v (wl l e E (outN k L)) (we e E) w' wo) := uB (by
     have := uA HP
     rw [List.take_of_length_le (by omega)] at this
     rw [hEE, we_ok]
     exact this)
    clear hEE
    go_wp2
    go_end0
    exact ⟨rfl, uA HPE⟩
 ·have HW := uB (fun W => zCY bytes W)
  rw [decide_eq_false hw] at HW
  have hE : errN bytes L = 1 := by rw [errN, if_pos (by omega)]
  rw [hE]
  have HR := uB (zFj w base b v l e h 1)
  have e1 : (if e = 0 then [] else l) = wl l e 1 (outN bytes.toNat L) := by simp [wl]
  have e2 : (if e = 0 then (1 : Int) else e) = we e 1 := rfl
  rw [e1, e2] at HR
  generalize wl l e 1 (outN bytes.toNat L) = X at *
  generalize we e 1 = Y at *
  clear h hp hE e1 e2
  go_enter Tryz.func167, Tryz.ntmps167
  go_wp2_with (first | (go_at_call 244; refine (uA HW _).mono ?_; rintro ev w1 ⟨rfl, rfl⟩) | (go_at_call 245; refine (uA HR).mono ?_; rintro ev w2 ⟨rfl, hP3⟩; have HP3 := uB hP3; clear hP3))
  (try simp only [Exit.inBlock, Exit.then])
  exact bodyPost_ret (results_none rfl _ _ _) rfl ⟨rfl, uA HP3⟩
theorem zKm {w : World} {base b cap : Nat} {L : List Int} (h : Bsl w base b cap L) : ∀ j, j < L.length -> w.cell? ((⟨b, 0, none⟩ : Addr).add j) = some (.int .u8 (L.getD j 0)) := by
 intro j hj
 rw [Addr.add_mid]
 exact h.2.2.2.2.1.get j hj
theorem zNR (w : World) (base b : Nat) (v : Value) (l : List Int) (e : Int) (h : Wtr w base b v l e) (hb : base <= w.heap.size) (s : ByteArray) (hsz : l.length + s.size <= 140737488355328) :
  Calls Tryz.prog 174 #[.pointer (some ⟨b, 0, none⟩), .string s] w fun ev w' => ev = .returned (.tuple #[]) /\ WPost base b v (wl l e 0 (nums s)) e w w' := by
 obtain ⟨cap, W, hrun, hB, hbel⟩ := Bsl.of_string w s (by omega)
 have hO : Only (fun _ => False) w W := Only.of_below hbel
 have HL := uB (zLy W base b v l e (h.only hO (fun _ _ q => q)) (Nat.le_trans hb hbel.size) ⟨w.heap.size, 0, none⟩ s.size cap (nums s) (zAf s) (fun j hj => zKm hB j (by rw [zAf]; exact hj)) hsz)
 rw [<- zOY] at HL
 have HO := uB hO
 clear h hB hbel hO
 generalize wl l e 0 (nums s) = X at *
 go_enter Tryz.func174, Tryz.ntmps174
 go_wp2_with (go_at_call 247; refine (uA HL).mono ?_; rintro ev w2 ⟨rfl, hP3⟩; have HP3 := uB hP3; clear hP3)
 go_end0
 exact ⟨rfl, WPost.trans (v1 := v) ((uA HO).mono (fun _ _ q => q.elim)) (fun k hk => .inl hk) (uA HP3)⟩
end
section
open Go.RowKit
theorem Arr.of_owns {w : World} {base g cap n : Nat} {l : List Int} (h : w.ownsRow base 5 1 (.slice (some ⟨g, 0, none⟩) n cap) l.length (l.map (Value.int .u8))) : Arr w g 0 .u8 l := by
 intro j hj
 rcases h.2 with ⟨h1, _⟩ | ⟨g', cap', cur, h1, _, hh, hn, _, hs, hx⟩
 ·cases h1
 ·obtain ⟨rfl, rfl, rfl⟩ : g = g' /\ n = l.length /\ cap = cap' := by simpa using h1
  rw [Nat.mul_one] at hs hx
  rw [Nat.zero_add, cell_of_row w g j cur 5 (0, 0) hh]
  refine ⟨?_, by simp [World.frozen?, hh]⟩
  have e : cur.toList[j]? = (l.map (Value.int .u8))[j]? := by rw [<- hx, List.getElem?_take, if_pos hj]
  rw [<- Array.getElem?_toList, e]
  simp [hj]
theorem zIF (w : World) (base b : Nat) (v : Value) (l : List Int) (e : Int) (h : Wtr w base b v l e) :
  Calls Tryz.prog 168 #[.pointer (some ⟨b, 0, none⟩)] w fun ev w' => ev = .returned (.tuple #[.string (strOfNums l), .int .i64 e]) /\ Below w.heap.size w w' := by
 have hcv : ∃ p cap, v = .slice p l.length cap /\ (convert 119 9 (.slice p l.length cap)).run Tryz.prog w.drew = .ok (.string (strOfNums l)) w.drew := by
  rcases h.2.1.2 with ⟨h1, h2⟩ | ⟨g, cap, cur, h1, _, hh, hn, _, hs, hx⟩
  ·obtain rfl : l = [] := List.eq_nil_of_length_eq_zero h2
   exact ⟨none, 0, h1, run_convert_bytes_nil (P := Tryz.prog) w.drew 119 5 Tryz.underlying119 Tryz.underlying5 0 0 9 Tryz.underlying9⟩
  ·subst h1
   have hA : Arr w g 0 .u8 l := Arr.of_owns h.2.1
   exact ⟨some ⟨g, 0, none⟩, cap, rfl, run_convert_bytes_arg (P := Tryz.prog) w.drew 119 5 Tryz.underlying119 Tryz.underlying5 g 0 l.length cap l rfl (fun i hi => hA.get i hi) 9 Tryz.underlying9⟩
 obtain ⟨p, cap, rfl, hcv⟩ := hcv
 have c0 : w.cell? ⟨b, 0, none⟩ = some (.slice p l.length cap) := by rw [h.1.cell 0]; rfl
 have c1 : w.cell? ⟨b, 1, none⟩ = some (.int .i64 e) := by rw [h.1.cell 1]; rfl
 clear h
 generalize strOfNums l = S at *
 go_enter Tryz.func168, Tryz.ntmps168
 go_wp2
 go_region
 all_goals (try go_wp2)
 all_goals (go_ret2; exact ⟨rfl, (Below.refl _ _).drew⟩)
end
section
open Go.RowKit
theorem WPost.below {w wr w2 : World} {base b : Nat} {v : Value} {l : List Int} {e : Int} (h : WPost base b v l e w wr) (hb : Below wr.heap.size wr w2) : WPost base b v l e w w2 := by
 obtain ⟨v1, h1, h2, h3⟩ := h
 have hO : Only (fun _ => False) wr w2 := Only.of_below hb
 exact ⟨v1, h1.only hO (fun _ _ q => q), h2.trans hO (fun _ _ q => q.elim), h3⟩
theorem WPost.blk {w wr : World} {base b : Nat} {v : Value} {l : List Int} {e : Int} (h : WPost base b v l e w wr) {k : Nat} {cur : Array Value} {T : TypeId} (hB : Blk w k cur T) (hk : ¬ Fp b v k) : Blk wr k cur T := by obtain ⟨_, _, h2, _⟩ := h; exact hB.only h2 hk
theorem rawK {w wr : World} {base b : Nat} {v : Value} {l : List Int} {e : Int} (h : WPost base b v l e w wr) (hb : base <= w.heap.size) (s : ByteArray) (hsz : l.length + s.size <= 140737488355328) :
  Calls Tryz.prog 174 #[.pointer (some ⟨b, 0, none⟩), .string s] wr fun ev w' => ev = .returned (.tuple #[]) /\ WPost base b v (wl l e 0 (nums s)) e w w' := by
 obtain ⟨v1, h1, h2, h3⟩ := h
 exact (zNR wr base b v1 l e h1 (Nat.le_trans hb h2.size) s hsz).mono (by rintro ev w' ⟨rfl, hp⟩; exact ⟨rfl, WPost.trans h2 h3 hp⟩)
theorem numK {w wr : World} {base b : Nat} {v : Value} {l : List Int} {e : Int} (h : WPost base b v l e w wr) (hb : base <= w.heap.size) (bytes : Int) (L : List Int) (cur : Array Value) (hc : cur = (L.map (Value.int .i64)).toArray) (hsz : l.length + 8 * L.length <= 140737488355328) (m : Nat) (hm : m = L.length) :
  Calls Tryz.prog 167 #[.pointer (some ⟨b, 0, none⟩), .int .i64 bytes, .slice (some ⟨wr.heap.size, 0, none⟩) m m] (wr.alloc (Obj.cells cur 3)) fun ev w' => ev = .returned (.tuple #[]) /\ WPost base b v (wl l e (errN bytes L) (outN bytes.toNat L)) (we e (errN bytes L)) w w' := by
 subst hc hm
 obtain ⟨v1, h1, h2, h3⟩ := h
 have hA := (Only.refl (fun _ => False) wr).alloc (Obj.cells (L.map (Value.int .i64)).toArray 3)
 have hB := Blk.new wr 3 (L.map (Value.int .i64)).toArray
 refine (zJY (wr.alloc (Obj.cells (L.map (Value.int .i64)).toArray 3)) base b v1 l e (h1.only hA (fun _ _ q => q)) (by have := h2.size; simp; omega) bytes L (some ⟨wr.heap.size, 0, none⟩) L.length (.inr ⟨wr.heap.size, 0, rfl, by simp, ?_, fun j hj => ?_⟩) hsz).mono ?_
 ·rintro (hq | hq)
  ·have := h1.lt; omega
  ·have := (h1.2.1.lt _ hq).2; omega
 ·rw [Nat.zero_add, hB.cell j]
  simp [hj]
 ·rintro ev w' ⟨rfl, hp⟩
  exact ⟨rfl, WPost.trans (h2.alloc _) h3 hp⟩
theorem zNL {w wr : World} {base b : Nat} {v : Value} {l : List Int} {e : Int} (h : WPost base b v l e w wr) :
  Calls Tryz.prog 168 #[.pointer (some ⟨b, 0, none⟩)] wr fun ev w' => ev = .returned (.tuple #[.string (strOfNums l), .int .i64 e]) /\ WPost base b v l e w w' := by
 have h' := h
 obtain ⟨v1, h1, h2, h3⟩ := h
 exact (zIF wr base b v1 l e h1).mono (by rintro ev w' ⟨rfl, hb⟩; exact ⟨rfl, h'.below hb⟩)
theorem zB5 (l out : List Int) : wl l 0 0 out = l ++ out := by simp [wl]
theorem zF5 : we 0 0 = 0 := rfl
end
section
open Go.RowKit
def zJH (v : Nat) : Nat := (v / 2) ^^^ (if v % 2 = 1 then 3988292384 else 0)
def iter (n : Nat) (v : Nat) : Nat := match n with
 | 0 => v
 | n + 1 => iter n (zJH v)
theorem zLX (n m v : Nat) : iter (n + m) v = iter m (iter n v) := by
 induction n generalizing v with
 | zero => simp [iter]
 | succ n ih => rw [Nat.succ_add, iter, ih, iter]
theorem zL2 (v : Nat) (h : v < 4294967296) : zJH v < 4294967296 := by
 unfold zJH
 refine Nat.xor_lt_two_pow (n := 32) (by omega) ?_
 split <;> omega
theorem zKF (n v : Nat) (h : v < 4294967296) : iter n v < 4294967296 := by
 induction n generalizing v with
 | zero => exact h
 | succ n ih => exact ih _ (zL2 v h)
def zNv (v b : Nat) : Nat := iter 8 (v ^^^ b)
def crcR (v : Nat) (l : List Nat) : Nat := l.foldl zNv v
theorem zL4 (v b : Nat) (hv : v < 4294967296) (hb : b < 256) : zNv v b < 4294967296 :=
 zKF _ _ (Nat.xor_lt_two_pow (n := 32) (by omega) (by omega))
end
section
open Go.RowKit
def nats (l : List Int) : List Nat := l.map Int.toNat
def chkN (l : List Int) : Nat := 4294967295 - crcR 4294967295 (nats l)
theorem zOb (l : List Nat) (hl : ∀ x ∈ l, x < 256) (v : Nat) (hv : v < 4294967296) : crcR v l < 4294967296 := by
 induction l generalizing v with
 | nil => exact hv
 | cons b l ih => exact ih (fun x hx => hl x (by simp [hx])) _ (zL4 v b hv (hl b (by simp)))
theorem zOd (l : List Int) (h : Bytes l) : ∀ x ∈ nats l, x < 256 := by
 intro x hx
 obtain ⟨y, hy, rfl⟩ := List.mem_map.1 hx
 obtain ⟨j, hj, e⟩ := List.getElem_of_mem hy
 have := h j
 rw [List.getD_eq_getElem?_getD, List.getElem?_eq_getElem hj, e] at this
 simp at this
 omega
theorem zJm (n v : Nat) : iter (n + 1) v = zJH (iter n v) := by rw [zLX]; rfl
theorem zMp (s : ByteArray) (i : Nat) (hi : i < s.size) : ∃ B : Nat, B < 256 /\ (nums s).getD i 0 = (B : Int) /\ nats ((nums s).take (i + 1)) = nats ((nums s).take i) ++ [B] := by
 have hb := zAt s i
 refine ⟨((nums s).getD i 0).toNat, by omega, by omega, ?_⟩
 have hl : i < (nums s).length := by rw [zAf]; exact hi
 rw [List.take_add_one, List.getElem?_eq_getElem hl, nats, nats, List.map_append, List.getD_eq_getElem?_getD, List.getElem?_eq_getElem hl]
 rfl
theorem zOo (v : Nat) (h : v < 4294967296) : v ^^^ 4294967295 = 4294967295 - v := by
 have h1 : (4294967295 : Nat) = 2 ^ 32 - 1 := by decide
 have h2 : v ^^^ (2 ^ 32 - 1) = 2 ^ 32 - 1 - v := by
  apply Nat.eq_of_testBit_eq
  intro i
  rw [Nat.testBit_xor, Nat.testBit_two_pow_sub_one, show 2 ^ 32 - 1 - v = 2 ^ 32 - (v + 1) by omega, Nat.testBit_two_pow_sub_succ (by omega)]
  by_cases hi : i < 32
  ·simp [hi]
  ·have : v.testBit i = false := Nat.testBit_lt_two_pow (Nat.lt_of_lt_of_le h (by exact Nat.pow_le_pow_right (n := 2) (by decide) (show 32 <= i by omega)))
   simp [hi, this]
 rw [h1]; exact h2
theorem zOI (s : ByteArray) (G : Nat) (hG : G = chkN (nums s)) (hs : s.size <= 9223372036854775806) (w : World) :
  Calls Tryz.prog 248 #[.string s] w fun e w' => e = .returned (.int .i64 (G : Int)) /\ w' = w := by
 have HG := uB hG
 clear hG
 have hix := fun (i : Nat) (hi : i < s.size) (W : World) => zGx s i hi W
 go_enter Tryz.func248, Tryz.ntmps248
 go_wp2
 go_loopw [3, 8] (fun c i wr => ∃ n : Nat, n <= s.size /\ i = .int .i64 (n : Int) /\ c = .int .u32 (crcR 4294967295 (nats ((nums s).take n)) : Int) /\ wr = w) (fun _ i _ => s.size - (intOf i).toNat)
 case atStart => exact ⟨0, by omega, rfl, rfl, rfl⟩
 case round =>
  obtain ⟨n, hn, rfl, rfl, rfl⟩ := hrel
  obtain ⟨wo, rfl⟩ : ∃ wo, wo = wr := ⟨_, rfl⟩
  have hlt := zOb (nats ((nums s).take n)) (zOd _ (fun j => by
   have := zAt s j
   rw [List.getD_eq_getElem?_getD, List.getElem?_take]
   split
   ·rw [<- List.getD_eq_getElem?_getD]; exact this
   ·simp)) 4294967295 (by omega)
  by_cases hns : n < s.size
  ·obtain ⟨B, hB, hBe, hBt⟩ := zMp s n hns
   have hi2 := hix n hns
   rw [hBe] at hi2
   have HT := uB hBt
   have HC := uB (show crcR 4294967295 (nats ((nums s).take (n + 1))) = zNv (crcR 4294967295 (nats ((nums s).take n))) B by rw [hBt, crcR, List.foldl_append]; rfl)
   clear hBt hBe hix
   generalize crcR 4294967295 (nats ((nums s).take n)) = V at *
   have hw8 : IntKind.u32.wrap (B : Int) = (B : Int) := by rw [IntKind.wrap_u32']; omega
   have hx := u32_xor_nat V B hlt (by omega)
   have hxl : V ^^^ B < 4294967296 := Nat.xor_lt_two_pow (n := 32) (by omega) (by omega)
   go_wp2
   go_loopw [3, 17] (fun c i wr => ∃ k : Nat, k <= 8 /\ i = .int .i64 (k : Int) /\ c = .int .u32 (iter k (V ^^^ B) : Int) /\ wr = wo) (fun _ i _ => 8 - (intOf i).toNat)
   case atStart => exact ⟨0, by omega, rfl, rfl, rfl⟩
   case round =>
    obtain ⟨k, hk, rfl, rfl, rfl⟩ := hrel
    have hl := zKF k (V ^^^ B) hxl
    have HS := uB (zJm k (V ^^^ B))
    by_cases hk8 : k < 8
    ·generalize iter k (V ^^^ B) = U at *
     have ha0 := u32_and_nat U 1 hl (by omega)
     rw [Nat.and_one_is_mod] at ha0
     have ha : bits .and .u32 (U : Int) 1 = ((U % 2 : Nat) : Int) := ha0
     have HX2 := uB (u32_xor_nat (U / 2) 3988292384 (by omega) (by omega))
     clear ha0
     rcases Nat.mod_two_eq_zero_or_one U with h | h
     ·rw [h] at ha
      go_wp2
      go_roundw
      case rel => exact ⟨k + 1, by omega, by go_num, by rw [uA HS, zJH, if_neg (by omega), Nat.xor_zero]; simp, trivial⟩
      case measure => simp [intOf]; omega
     ·rw [h] at ha
      go_wp2
      go_roundw
      case rel => exact ⟨k + 1, by omega, by go_num, by rw [uA HS, zJH, if_pos h, <- uA HX2]; rfl, trivial⟩
      case measure => simp [intOf]; omega
    ·obtain rfl : k = 8 := by omega
     go_wp2
     go_roundw
     case rel => exact ⟨n + 1, by omega, by go_num, by rw [uA HC]; rfl, trivial⟩
     case measure => simp [intOf]; omega
  ·have HF := uB (show G = 4294967295 - crcR 4294967295 (nats ((nums s).take n)) by rw [uA HG, chkN, List.take_of_length_le (by rw [zAf]; omega)])
   have HX := uB (zOo _ hlt)
   clear hix HG
   generalize crcR 4294967295 (nats ((nums s).take n)) = V at *
   have hx0 := u32_xor_nat 4294967295 V (by omega) hlt
   rw [Nat.xor_comm, uA HX] at hx0
   have hx : bits .xor .u32 4294967295 (V : Int) = ((4294967295 - V : Nat) : Int) := hx0
   clear hx0
   obtain ⟨R, hR⟩ : ∃ R, R = 4294967295 - V := ⟨_, rfl⟩
   have hRl : R < 4294967296 := by omega
   rw [<- hR] at hx HF
   have HW := uB (show wrap64 (bits .xor .u32 IntKind.u32.max (V : Int)) = (R : Int) by
    have hm : (IntKind.u32.max : Int) = 4294967295 := by decide
    rw [hm, hx]; exact zJ7 _ (by omega) (by omega))
   clear hR HX hx
   go_wp2
   go_ret
   refine ⟨?_, rfl⟩
   rw [uA HF, <- uA HW]
   rfl
end
section
open Go.RowKit
def le4 (c : Nat) : List Int := [((c % 256 : Nat) : Int), ((c / 256 % 256 : Nat) : Int), ((c / 65536 % 256 : Nat) : Int), ((c / 16777216 : Nat) : Int)]
def zCV (kind number : Int) (body : List Int) : List Int := [83, 66] ++ (numB kind 1 ++ numB (body.length : Int) 1) ++ numB number 4 ++ body ++ List.replicate (244 - body.length) 0
def zCH (kind number : Int) (body : List Int) : List Int := zCV kind number body ++ le4 (chkN (zCV kind number body))
def errM (kind number : Int) (n : Nat) : Int := if ¬ zAJ kind 1 ∨ ¬ zAJ number 4 then 1 else if 244 < n then 32 else 0
def zBv (kind number : Int) (body : ByteArray) : ByteArray := if errM kind number body.size = 0 then strOfNums (zCH kind number (nums body)) else ⟨#[]⟩
theorem zGq (kind number : Int) (body : List Int) (h : body.length <= 244) : (zCV kind number body).length = 252 := by simp [zCV, zAL]; omega
theorem zGY (kind number : Int) (body : List Int) (h : body.length <= 244) : (zCH kind number body).length = 256 := by rw [zCH, List.length_append, zGq _ _ _ h]; rfl
theorem Bytes.app {a b : List Int} (ha : Bytes a) (hb : Bytes b) : Bytes (a ++ b) := by
 intro j
 rw [List.getD_eq_getElem?_getD, List.getElem?_append]
 split
 ·rw [<- List.getD_eq_getElem?_getD]; exact ha j
 ·rw [<- List.getD_eq_getElem?_getD]; exact hb _
theorem Bytes.of_mem {a : List Int} (h : ∀ x ∈ a, 0 <= x /\ x < 256) : Bytes a := by
 intro j
 rw [List.getD_eq_getElem?_getD]
 cases e : a[j]? with
 | none => simp
 | some x => exact h x (List.mem_of_getElem? e)
theorem Bytes.mem {a : List Int} (h : Bytes a) {x : Int} (hx : x ∈ a) : 0 <= x /\ x < 256 := by
 obtain ⟨j, hj, e⟩ := List.getElem_of_mem hx
 have := h j
 rw [List.getD_eq_getElem?_getD, List.getElem?_eq_getElem hj, e] at this
 simpa using this
theorem zKD (l : List Int) : chkN l <= 4294967295 := by unfold chkN; omega
theorem zEz (c : Nat) (h : c <= 4294967295) : Bytes (le4 c) := Bytes.of_mem (by
 intro x hx
 simp [le4] at hx
 rcases hx with rfl | rfl | rfl | rfl <;> omega)
theorem zBH (n : Nat) : Bytes (List.replicate n 0) := Bytes.of_mem (by intro x hx; rw [(List.mem_replicate.1 hx).2]; omega)
theorem zEw (kind number : Int) (body : List Int) (h : Bytes body) : Bytes (zCV kind number body) :=
 ((((Bytes.of_mem (by intro x hx; simp at hx; omega)).app ((zA9 _ _).app (zA9 _ _))).app (zA9 _ _)).app h).app (zBH _)
theorem zEP (kind number : Int) (body : List Int) (h : Bytes body) : Bytes (zCH kind number body) := (zEw _ _ _ h).app (zEz _ (zKD _))
theorem zKW (x : Int) : zAJ x 1 ↔ 0 <= x /\ x <= 255 := by
 unfold zAJ
 rw [show (2 : Int) ^ (8 * 1) = 256 by decide]
 omega
theorem fits4 (x : Int) : zAJ x 4 ↔ 0 <= x /\ x <= 4294967295 := by
 unfold zAJ
 rw [show (2 : Int) ^ (8 * 4) = 4294967296 by decide]
 omega
theorem zNY (x : Int) (h0 : 0 <= x) (h : x <= 255) : numB x 1 = [x] := by
 simp [numB, List.range_succ]
 omega
theorem zDI (c : Nat) (h : c < 9223372036854775808) : bits .and .i64 (c : Int) 255 = ((c % 256 : Nat) : Int) := by
 have hx : c &&& 255 = c % 256 := Nat.and_two_pow_sub_one_eq_mod c 8
 have h1 : (BitVec.ofInt 64 (c : Int)).toNat = c := by
  rw [BitVec.ofInt_natCast, BitVec.toNat_ofNat]; exact Nat.mod_eq_of_lt (by omega)
 have h2 : (BitVec.ofInt 64 (255 : Int)).toNat = 255 := by decide
 show IntKind.i64.wrap ((BitVec.ofInt 64 (c : Int) &&& BitVec.ofInt 64 (255 : Int)).toNat : Int) = _
 rw [BitVec.toNat_and, h1, h2, hx, IntKind.wrap_i64]
 omega
end
section
open Go.RowKit
def zFG : Prop := ∀ (c : Nat) (W : World), c <= 244 -> Calls Tryz.prog 87 #[.string ⟨#[0]⟩, .int .i64 (c : Int)] W fun e w' => e = .returned (.string (strOfNums (List.replicate c 0))) /\ Below W.heap.size W w'
theorem zHg (hRep : zFG) (kind number : Int) (body : ByteArray) (hk : zAJ kind 1) (hn : zAJ number 4) (hbd : body.size <= 244) (w : World) :
  Calls Tryz.prog 169 #[.agg #[.int .i64 kind, .int .i64 number, .string body]] w fun e w' => e = .returned (.tuple #[.string (strOfNums (zCH kind number (nums body))), .int .i64 0]) /\ Below w.heap.size w w' := by
 have HF1 := uB (fun W => zBP kind 1 (by decide) W)
 rw [decide_eq_true hk] at HF1
 have HF4 := uB (fun W => zBP number 4 (by decide) W)
 rw [decide_eq_true hn] at HF4
 have HNW := uB (fun W => zBE W)
 have HR := uB hRep
 obtain ⟨n, hnB⟩ : ∃ n, body.size = n := ⟨_, rfl⟩
 have HE1 := uB (show errN 1 [kind, (n : Int)] = 0 by
  rw [errN, if_neg (by omega), if_pos]
  intro x hx
  simp at hx
  rcases hx with rfl | rfl
  ·exact hk
  ·exact (zKW _).2 ⟨by omega, by omega⟩)
 have HE4 := uB (show errN 4 [number] = 0 by
  rw [errN, if_neg (by omega), if_pos]
  intro x hx
  simp at hx
  rw [hx]
  exact hn)
 obtain ⟨P, hP⟩ : ∃ P, zCV kind number (nums body) = P := ⟨_, rfl⟩
 have hPl : P.length = 252 := by rw [<- hP]; exact zGq _ _ _ (by rw [zAf]; exact hbd)
 have hPeq : [83, 66] ++ outN 1 [kind, (n : Int)] ++ outN 4 [number] ++ nums body ++ List.replicate (244 - n) 0 = P := by
  rw [<- hP, zCV, zAf, hnB]
  simp [outN]
 obtain ⟨c, hc⟩ : ∃ c, chkN P = c := ⟨_, rfl⟩
 have hcl : c <= 4294967295 := by rw [<- hc]; exact zKD _
 have hmk : zCH kind number (nums body) = P ++ le4 c := by rw [zCH, hP, hc]
 have hPb : Bytes P := by rw [<- hP]; exact zEw _ _ _ (zAt _)
 have HEC := uB (show errN 1 (le4 c) = 0 by
  rw [errN, if_neg (by omega), if_pos]
  intro x hx
  have := (zEz c hcl).mem hx
  exact (zKW _).2 ⟨by omega, by omega⟩)
 have hoc : outN 1 (le4 c) = le4 c := by
  have h1 : ∀ l : List Int, Bytes l -> outN 1 l = l := by
   intro l
   induction l with
   | nil => intro _; rfl
   | cons x l ih =>
    intro hb
    have hx := hb.mem (List.mem_cons_self)
    have e1 : outN 1 (x :: l) = numB x 1 ++ outN 1 l := by simp [outN]
    rw [e1, zNY x hx.1 (by omega), ih (Bytes.of_mem (fun y hy => hb.mem (List.mem_cons_of_mem _ hy)))]
    rfl
  exact h1 _ (zEz c hcl)
 rw [hmk]
 have HCK := uB (fun W => zOI (strOfNums P) c (by rw [zAd P hPb, hc]) (by
  have : (strOfNums P).size = P.length := by rw [<- zAf, zAd P hPb]
  omega) W)
 have a0 := zDI c (by omega)
 have a1 : bits .and .i64 ((c : Int) / 256) 255 = ((c / 256 % 256 : Nat) : Int) := by have := zDI (c / 256) (by omega); rwa [show ((c / 256 : Nat) : Int) = (c : Int) / 256 by omega] at this
 have a2 : bits .and .i64 ((c : Int) / 65536) 255 = ((c / 65536 % 256 : Nat) : Int) := by have := zDI (c / 65536) (by omega); rwa [show ((c / 65536 : Nat) : Int) = (c : Int) / 65536 by omega] at this
 obtain ⟨d0, hd0⟩ : ∃ d, c % 256 = d := ⟨_, rfl⟩
 obtain ⟨d1, hd1⟩ : ∃ d, c / 256 % 256 = d := ⟨_, rfl⟩
 obtain ⟨d2, hd2⟩ : ∃ d, c / 65536 % 256 = d := ⟨_, rfl⟩
 obtain ⟨d3, hd3⟩ : ∃ d, c / 16777216 = d := ⟨_, rfl⟩
 have hle : le4 c = [(d0 : Int), (d1 : Int), (d2 : Int), (d3 : Int)] := by rw [le4, hd0, hd1, hd2, hd3]
 rw [hd0] at a0
 rw [hd1] at a1
 rw [hd2] at a2
 have s3 : (c : Int) / 16777216 = (d3 : Int) := by omega
 have hsub : (244 : Int) - (n : Int) = ((244 - n : Nat) : Int) := by omega
 obtain ⟨z, hz⟩ : ∃ z, 244 - n = z := ⟨_, rfl⟩
 rw [hz] at hsub hPeq
 have HPE := uB hPeq
 have HLE := uB hle
 have HOC := uB hoc
 have HPL := uB hPl
 have hz244 : z <= 244 := by omega
 clear hk hn hRep hP hPl hPeq hc hmk hPb hoc hd0 hd1 hd2 hd3 hle hz
 go_enter Tryz.func169, Tryz.ntmps169
 go_wp2_with fail
 refine (uA HF1 _).mono ?_
 rintro ev wa ⟨rfl, rfl⟩
 go_wp2_with fail
 refine (uA HF4 _).mono ?_
 rintro ev wb ⟨rfl, rfl⟩
 go_wp2_with fail
 refine (uA HNW _).mono ?_
 rintro ev x0 ⟨rfl, hW, hBe, hSz⟩
 have hPG : Blk x0 w.heap.size #[.int .i64 kind, .int .i64 number, .string body] 227 := (Blk.new w _ _).below hBe (by simp)
 have HPG := uB hPG
 obtain ⟨B, hB⟩ : ∃ B, (w.alloc (Obj.cells #[.int .i64 kind, .int .i64 number, .string body] 227)).heap.size = B := ⟨_, rfl⟩
 have hB' : B = w.heap.size + 1 := by rw [<- hB]; simp
 rw [hB] at hW hSz
 have HBe := uB (show Below w.heap.size w x0 from ((Below.refl _ w).alloc (Nat.le_refl _) _).trans (hBe.mono (by simp)))
 have HNF := uB (show ¬ Fp B (.slice none 0 0) w.heap.size by
  rintro (h | h)
  ·omega
  ·cases h)
 have hb0 : B <= x0.heap.size := by omega
 have hB1 : w.heap.size + 1 = B := by omega
 have HP0 := uB (WPost.refl hW)
 have HHB := uB hB
 have HHB' := uB hB'
 have HSz := uB hSz
 clear hW hBe hSz hPG HNW HF1 HF4 hB hB'
 have hbx0 := (uA HP0).blk (uA HPG) (uA HNF)
 have p0x0 : x0.cell? ⟨w.heap.size, 0, none⟩ = some (.int .i64 kind) := by rw [hbx0.cell 0]; rfl
 have p1x0 : x0.cell? ⟨w.heap.size, 1, none⟩ = some (.int .i64 number) := by rw [hbx0.cell 1]; rfl
 have p2x0 : x0.cell? ⟨w.heap.size, 2, none⟩ = some (.string body) := by rw [hbx0.cell 2]; rfl
 clear hbx0
 go_wp2_with fail
 refine (rawK (uA HP0) hb0 ⟨#[83, 66]⟩ (by decide)).mono ?_
 rintro ev x1 ⟨rfl, hP⟩
 rw [zB5, List.nil_append, show nums ⟨#[83, 66]⟩ = [83, 66] from rfl] at hP
 have HP1 := uB hP
 clear hP HP0 p0x0 p1x0 p2x0
 have hbx1 := (uA HP1).blk (uA HPG) (uA HNF)
 have p0x1 : x1.cell? ⟨w.heap.size, 0, none⟩ = some (.int .i64 kind) := by rw [hbx1.cell 0]; rfl
 have p1x1 : x1.cell? ⟨w.heap.size, 1, none⟩ = some (.int .i64 number) := by rw [hbx1.cell 1]; rfl
 have p2x1 : x1.cell? ⟨w.heap.size, 2, none⟩ = some (.string body) := by rw [hbx1.cell 2]; rfl
 clear hbx1
 go_wp2_with fail
 refine (numK (uA HP1) hb0 1 [kind, (n : Int)] _ rfl (by simp) 2 rfl).mono ?_
 rintro ev x2 ⟨rfl, hP⟩
 rw [uA HE1, zB5, zF5] at hP
 have HP2 := uB hP
 clear hP HP1 p0x1 p1x1 p2x1
 have hbx2 := (uA HP2).blk (uA HPG) (uA HNF)
 have p0x2 : x2.cell? ⟨w.heap.size, 0, none⟩ = some (.int .i64 kind) := by rw [hbx2.cell 0]; rfl
 have p1x2 : x2.cell? ⟨w.heap.size, 1, none⟩ = some (.int .i64 number) := by rw [hbx2.cell 1]; rfl
 have p2x2 : x2.cell? ⟨w.heap.size, 2, none⟩ = some (.string body) := by rw [hbx2.cell 2]; rfl
 clear hbx2
 go_wp2_with fail
 refine (numK (uA HP2) hb0 4 [number] _ rfl (by simp [zDz]) 1 rfl).mono ?_
 rintro ev x3 ⟨rfl, hP⟩
 rw [uA HE4, zB5, zF5] at hP
 have HP3 := uB hP
 clear hP HP2 p0x2 p1x2 p2x2
 have hbx3 := (uA HP3).blk (uA HPG) (uA HNF)
 have p0x3 : x3.cell? ⟨w.heap.size, 0, none⟩ = some (.int .i64 kind) := by rw [hbx3.cell 0]; rfl
 have p1x3 : x3.cell? ⟨w.heap.size, 1, none⟩ = some (.int .i64 number) := by rw [hbx3.cell 1]; rfl
 have p2x3 : x3.cell? ⟨w.heap.size, 2, none⟩ = some (.string body) := by rw [hbx3.cell 2]; rfl
 clear hbx3
 go_wp2_with fail
 refine (rawK (uA HP3) hb0 body (by simp [zDz]; omega)).mono ?_
 rintro ev x4 ⟨rfl, hP⟩
 rw [zB5] at hP
 have HP4 := uB hP
 clear hP HP3 p0x3 p1x3 p2x3
 have hbx4 := (uA HP4).blk (uA HPG) (uA HNF)
 have p0x4 : x4.cell? ⟨w.heap.size, 0, none⟩ = some (.int .i64 kind) := by rw [hbx4.cell 0]; rfl
 have p1x4 : x4.cell? ⟨w.heap.size, 1, none⟩ = some (.int .i64 number) := by rw [hbx4.cell 1]; rfl
 have p2x4 : x4.cell? ⟨w.heap.size, 2, none⟩ = some (.string body) := by rw [hbx4.cell 2]; rfl
 clear hbx4
 go_wp2_with fail
 refine (uA HR z _ hz244).mono ?_
 rintro ev x5 ⟨rfl, hB5⟩
 have HP5 := uB ((uA HP4).below hB5)
 clear hB5 HP4 p0x4 p1x4 p2x4
 have hbx5 := (uA HP5).blk (uA HPG) (uA HNF)
 have p0x5 : x5.cell? ⟨w.heap.size, 0, none⟩ = some (.int .i64 kind) := by rw [hbx5.cell 0]; rfl
 have p1x5 : x5.cell? ⟨w.heap.size, 1, none⟩ = some (.int .i64 number) := by rw [hbx5.cell 1]; rfl
 have p2x5 : x5.cell? ⟨w.heap.size, 2, none⟩ = some (.string body) := by rw [hbx5.cell 2]; rfl
 clear hbx5
 go_wp2_with fail
 refine (rawK (uA HP5) hb0 (strOfNums (List.replicate z 0)) (by rw [<- zAf (strOfNums _), zAd _ (zBH z)]; simp [zDz, zAf]; omega)).mono ?_
 rintro ev x6 ⟨rfl, hP⟩
 rw [zB5, zAd _ (zBH z), show Int.toNat 1 = 1 from rfl, show Int.toNat 4 = 4 from rfl, uA HPE] at hP
 have HP6 := uB hP
 clear hP HP5 p0x5 p1x5 p2x5
 have hbx6 := (uA HP6).blk (uA HPG) (uA HNF)
 have p0x6 : x6.cell? ⟨w.heap.size, 0, none⟩ = some (.int .i64 kind) := by rw [hbx6.cell 0]; rfl
 have p1x6 : x6.cell? ⟨w.heap.size, 1, none⟩ = some (.int .i64 number) := by rw [hbx6.cell 1]; rfl
 have p2x6 : x6.cell? ⟨w.heap.size, 2, none⟩ = some (.string body) := by rw [hbx6.cell 2]; rfl
 clear hbx6
 go_wp2_with fail
 refine (zNL (uA HP6)).mono ?_
 rintro ev x7 ⟨rfl, hP⟩
 skip
 have HP7 := uB hP
 clear hP HP6 p0x6 p1x6 p2x6
 have hbx7 := (uA HP7).blk (uA HPG) (uA HNF)
 have p0x7 : x7.cell? ⟨w.heap.size, 0, none⟩ = some (.int .i64 kind) := by rw [hbx7.cell 0]; rfl
 have p1x7 : x7.cell? ⟨w.heap.size, 1, none⟩ = some (.int .i64 number) := by rw [hbx7.cell 1]; rfl
 have p2x7 : x7.cell? ⟨w.heap.size, 2, none⟩ = some (.string body) := by rw [hbx7.cell 2]; rfl
 clear hbx7
 go_wp2_with fail
 refine (uA HCK _).mono ?_
 rintro ev x8 ⟨rfl, rfl⟩
 have HP8 := HP7
 clear HP7
 go_wp2_with fail
 refine (numK (uA HP8) hb0 1 [(d0 : Int), (d1 : Int), (d2 : Int), (d3 : Int)] _ rfl (by rw [uA HPL]; simp) 4 rfl).mono ?_
 rintro ev x9 ⟨rfl, hP⟩
 rw [<- uA HLE, uA HEC, zB5, zF5, show Int.toNat 1 = 1 from rfl, uA HOC] at hP
 have HP9 := uB hP
 clear hP HP8
 go_wp2_with fail
 refine (zNL (uA HP9)).mono ?_
 rintro ev x10 ⟨rfl, hP⟩
 have HP10 := uB hP
 clear hP HP9
 go_wp2
 go_ret2
 refine ⟨rfl, ?_⟩
 obtain ⟨v1, h1, h2, h3⟩ := uA HP10
 have hlow : Below w.heap.size x0 x10 := h2.below (by have := uA HSz; have := uA HHB'; omega) (fun k hk hf => by
  rcases hf with rfl | hf
  ·have := uA HHB'; omega
  ·cases hf)
 exact (uA HBe).trans hlow
end
section
open Go.RowKit
theorem zF3 (hRep : zFG) (kind number : Int) (body : ByteArray) (w : World) :
  Calls Tryz.prog 169 #[.agg #[.int .i64 kind, .int .i64 number, .string body]] w fun e w' => e = .returned (.tuple #[.string (zBv kind number body), .int .i64 (errM kind number body.size)]) /\ Below w.heap.size w w' := by
 by_cases hk : zAJ kind 1
 ·by_cases hn : zAJ number 4
  ·by_cases hb : body.size <= 244
   ·have hE : errM kind number body.size = 0 := by rw [errM, if_neg (by simp [hk, hn]), if_neg (by omega)]
    rw [zBv, if_pos hE, hE]
    exact zHg hRep kind number body hk hn hb w
   ·have hE : errM kind number body.size = 32 := by rw [errM, if_neg (by simp [hk, hn]), if_pos (by omega)]
    rw [zBv, if_neg (by rw [hE]; decide), hE]
    have HF1 := uB (fun W => zBP kind 1 (by decide) W)
    rw [decide_eq_true hk] at HF1
    have HF4 := uB (fun W => zBP number 4 (by decide) W)
    rw [decide_eq_true hn] at HF4
    have hb' : 244 < body.size := by omega
    clear hk hn hRep hE
    go_enter Tryz.func169, Tryz.ntmps169
    go_wp2_with fail
    refine (uA HF1 _).mono ?_
    rintro ev wa ⟨rfl, rfl⟩
    go_wp2_with fail
    refine (uA HF4 _).mono ?_
    rintro ev wb ⟨rfl, rfl⟩
    go_wp2
    go_ret2
    exact ⟨rfl, (Below.refl _ w).alloc (Nat.le_refl _) _⟩
  ·have hE : errM kind number body.size = 1 := by rw [errM, if_pos (.inr hn)]
   rw [zBv, if_neg (by rw [hE]; decide), hE]
   have HF1 := uB (fun W => zBP kind 1 (by decide) W)
   rw [decide_eq_true hk] at HF1
   have HF4 := uB (fun W => zBP number 4 (by decide) W)
   rw [decide_eq_false hn] at HF4
   clear hk hn hRep hE
   go_enter Tryz.func169, Tryz.ntmps169
   go_wp2_with fail
   refine (uA HF1 _).mono ?_
   rintro ev wa ⟨rfl, rfl⟩
   go_wp2_with fail
   refine (uA HF4 _).mono ?_
   rintro ev wb ⟨rfl, rfl⟩
   go_wp2
   go_ret2
   exact ⟨rfl, (Below.refl _ w).alloc (Nat.le_refl _) _⟩
 ·have hE : errM kind number body.size = 1 := by rw [errM, if_pos (.inl hk)]
  rw [zBv, if_neg (by rw [hE]; decide), hE]
  have HF1 := uB (fun W => zBP kind 1 (by decide) W)
  rw [decide_eq_false hk] at HF1
  clear hk hRep hE
  go_enter Tryz.func169, Tryz.ntmps169
  go_wp2_with fail
  refine (uA HF1 _).mono ?_
  rintro ev wa ⟨rfl, rfl⟩
  go_wp2
  go_ret2
  exact ⟨rfl, (Below.refl _ w).alloc (Nat.le_refl _) _⟩
end
end Go.Proofs.YtdpnbemagiekoaaGreatDoor
