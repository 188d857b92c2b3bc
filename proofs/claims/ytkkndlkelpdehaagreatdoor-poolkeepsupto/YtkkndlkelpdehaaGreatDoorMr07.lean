import Derived.Test.YtkkndlkelpdehaaGreatDoorMr00
import Derived.Test.YtkkndlkelpdehaaGreatDoorMr06
import Derived.BigQuiet
import Derived.Test.YtkkndlkelpdehaaGreatDoorMr05
namespace Go.Proofs.YtkkndlkelpdehaaGreatDoor
open Go.RowKit
/-- A number by so many bytes, the highest first. -/
def numB (v : Int) (size : Nat) : List Int := (List.range size).map (fun i => v / 2 ^ (8 * (size - 1 - i)) % 256)
theorem numB_len (v : Int) (size : Nat) : (numB v size).length = size := by simp [numB]
theorem numB_bytes (v : Int) (size : Nat) : Bytes (numB v size) := by
  intro j
  by_cases h : j < size
  · have : (numB v size).getD j 0 = v / 2 ^ (8 * (size - 1 - j)) % 256 := by simp [numB, h]
    rw [this]
    omega
  · have : (numB v size).getD j 0 = 0 := by simp [numB, h]
    rw [this]
    omega
theorem numB_take (v : Int) (size j : Nat) (h : j < size) : (numB v size).take (j + 1) = (numB v size).take j ++ [v / 2 ^ (8 * (size - 1 - j)) % 256] := by
  have hl : j < (numB v size).length := by rw [numB_len]; exact h
  rw [List.take_add_one, List.getElem?_eq_getElem hl]
  simp [numB]
theorem numB_all (v : Int) (size : Nat) : (numB v size).take size = numB v size := List.take_of_length_le (by rw [numB_len]; exact Nat.le_refl _)
/-- May a number stand in so many bytes? -/
def fitsP (n : Int) (k : Nat) : Prop := 0 ≤ n ∧ n / 2 ^ (8 * k) = 0
instance (n : Int) (k : Nat) : Decidable (fitsP n k) := inferInstanceAs (Decidable (_ ∧ _))
def errN (bytes : Int) (L : List Int) : Int := if bytes < 1 ∨ 8 < bytes then 1 else if ∀ n ∈ L, fitsP n bytes.toNat then 0 else 30
def outN (k : Nat) (L : List Int) : List Int := L.flatMap (fun n => numB n k)
theorem outN_len (k : Nat) (L : List Int) : (outN k L).length = k * L.length := by
  induction L with
  | nil => simp [outN]
  | cons x L ih => simp [outN, numB_len] at *; rw [ih]; grind
theorem outN_snoc (k : Nat) (L : List Int) (i : Nat) (hi : i < L.length) : outN k (L.take (i + 1)) = outN k (L.take i) ++ numB (L.getD i 0) k := by
  rw [List.take_add_one, List.getElem?_eq_getElem hi, List.getD_eq_getElem?_getD, List.getElem?_eq_getElem hi]
  show (L.take i ++ [L[i]]).flatMap _ = _
  rw [List.flatMap_append]
  simp [outN]
/-- Digits of base 128, the lowest first. -/
def digN (n : Nat) : List Int := if n < 128 then [(n : Int)] else ((n % 128 + 128 : Nat) : Int) :: digN (n / 128)
  termination_by n
  decreasing_by omega
theorem digN_small (n : Nat) (h : n < 128) : digN n = [(n : Int)] := by rw [digN, if_pos h]
theorem digN_big (n : Nat) (h : ¬ n < 128) : digN n = ((n % 128 + 128 : Nat) : Int) :: digN (n / 128) := by rw [digN, if_neg h]
theorem digN_len (k n : Nat) (h : n < 128 ^ (k + 1)) : 1 ≤ (digN n).length ∧ (digN n).length ≤ k + 1 := by
  induction k generalizing n with
  | zero => rw [digN_small n (by simpa using h)]; simp
  | succ k ih =>
    by_cases hn : n < 128
    · rw [digN_small n hn]; simp
    · rw [digN_big n hn]
      have := ih (n / 128) (by rw [Nat.div_lt_iff_lt_mul (by decide)]; rw [Nat.pow_succ] at h; exact h)
      simp
      omega
theorem digN_nine (n : Nat) (h : n ≤ 9223372036854775807) : 1 ≤ (digN n).length ∧ (digN n).length ≤ 9 := digN_len 8 n (by
  have : (128 : Nat) ^ (8 + 1) = 9223372036854775808 := by decide
  omega)
/-- The row and the first fault behind a call that lays 'out' down, or with which 'err' is wrong. -/
def wl (l : List Int) (e err : Int) (out : List Int) : List Int := if e = 0 then (if err = 0 then l ++ out else []) else l
def we (e err : Int) : Int := if e = 0 then err else e
theorem wl_ok (l : List Int) (e : Int) (out : List Int) : wl l e 0 out = if e = 0 then l ++ out else l := by simp [wl]
theorem wl_two (l : List Int) (e : Int) (o1 o2 : List Int) : wl (wl l e 0 o1) e 0 o2 = wl l e 0 (o1 ++ o2) := by
  by_cases h : e = 0 <;> simp [wl, h]
theorem wl_nil (l : List Int) (e : Int) : wl l e 0 [] = l := by simp [wl]
theorem wl_len (l : List Int) (e : Int) (out : List Int) : (wl l e 0 out).length ≤ l.length + out.length := by
  by_cases h : e = 0 <;> simp [wl, h]
theorem we_ok (e : Int) : we e 0 = e := by unfold we; split <;> omega
theorem wl_bad (l : List Int) (e err : Int) (o1 o2 : List Int) (h : err ≠ 0) : (if e = 0 then [] else wl l e 0 o1) = wl l e err o2 := by
  by_cases he : e = 0 <;> simp [wl, he, h]
end Go.Proofs.YtkkndlkelpdehaaGreatDoor

namespace Go.Proofs.YtkkndlkelpdehaaGreatDoor
open Go.RowKit
set_option maxHeartbeats 400000 in
theorem isWidth_any (n : Int) (w : World) : Calls Tryz.prog 102 #[.int .i64 n] w fun e w' => e = .returned (.bool (decide (1 ≤ n ∧ n ≤ 8))) ∧ w' = w := by
  by_cases h : 1 ≤ n
  · by_cases h8 : n ≤ 8
    · have hd : decide (1 ≤ n ∧ n ≤ 8) = true := decide_eq_true ⟨h, h8⟩
      rw [hd]
      go_enter Tryz.func102, Tryz.ntmps102
      go_wp2
      go_ret
      exact ⟨rfl, rfl⟩
    · have hd : decide (1 ≤ n ∧ n ≤ 8) = false := decide_eq_false (fun q => h8 q.2)
      rw [hd]
      go_enter Tryz.func102, Tryz.ntmps102
      go_wp2
      go_ret
      exact ⟨rfl, rfl⟩
  · have hd : decide (1 ≤ n ∧ n ≤ 8) = false := decide_eq_false (fun q => h q.1)
    rw [hd]
    go_enter Tryz.func102, Tryz.ntmps102
    go_wp2
    go_ret
    exact ⟨rfl, rfl⟩
set_option maxHeartbeats 400000 in
theorem fits_any (n : Int) (k : Nat) (hk : k ≤ 8) (w : World) : Calls Tryz.prog 104 #[.int .i64 n, .int .i64 (k : Int)] w fun e w' => e = .returned (.bool (decide (fitsP n k))) ∧ w' = w := by
  by_cases h : 0 ≤ n
  · obtain ⟨q, hq⟩ : ∃ q, n / 2 ^ (8 * k) = q := ⟨_, rfl⟩
    have ht : (8 * (k : Int)).toNat = 8 * k := by omega
    have hd : decide (fitsP n k) = (q == 0) := by
      rw [show (q == 0) = decide (q = 0) from rfl]
      apply decide_eq_decide.2
      rw [← hq]
      exact ⟨fun x => x.2, fun x => ⟨h, x⟩⟩
    rw [hd]
    clear hd
    have h2 : 8 * (k : Int) ≤ 64 := by omega
    go_enter Tryz.func104, Tryz.ntmps104
    go_wp2
    go_ret
    exact ⟨by rw [← hq]; rfl, rfl⟩
  · have hd : decide (fitsP n k) = false := decide_eq_false (fun q => h q.1)
    rw [hd]
    go_enter Tryz.func104, Tryz.ntmps104
    go_wp2
    go_ret
    exact ⟨rfl, rfl⟩
/-- One byte more, behind what was done since w. -/
theorem lay1 {w wr : World} {base b : Nat} {v : Value} {l : List Int} {e : Int} (h : WPost base b v l e w wr) (hb : base ≤ w.heap.size) (x : Int) (T : TypeId) (hsz : l.length + 1 ≤ 140737488355328) :
    Calls Tryz.prog 105 #[.pointer (some ⟨b, 0, none⟩), .slice (some ⟨wr.heap.size, 0, none⟩) 1 1] (wr.alloc (Obj.cells #[.int .u8 x] T)) fun ev w' => ev = .returned (.tuple #[]) ∧ WPost base b v (wl l e 0 [x]) e w w' := by
  obtain ⟨v1, h1, h2, h3⟩ := h
  have hA := (Only.refl (fun _ => False) wr).alloc (Obj.cells #[.int .u8 x] T)
  have hsw := h2.size
  refine (lay_any (wr.alloc (Obj.cells #[.int .u8 x] T)) base b v1 l e (h1.only hA (fun _ _ q => q)) (by simp; omega) ⟨wr.heap.size, 0, none⟩ 1 1 [x] rfl (fun j hj => ?_) hsz).mono ?_
  · obtain rfl : j = 0 := by omega
    simp [Addr.add]
  · rintro ev w' ⟨rfl, hp⟩
    refine ⟨rfl, ?_⟩
    rw [wl_ok]
    exact WPost.trans (h2.alloc _) h3 hp
end Go.Proofs.YtkkndlkelpdehaaGreatDoor

namespace Go.Proofs.YtkkndlkelpdehaaGreatDoor
open Go.RowKit
theorem refuseP {w wr : World} {base b : Nat} {v : Value} {l : List Int} {e : Int} (h : WPost base b v l e w wr) (x : Int) :
    Calls Tryz.prog 103 #[.pointer (some ⟨b, 0, none⟩), .int .i64 x] wr fun ev w' => ev = .returned (.tuple #[]) ∧ WPost base b v (if e = 0 then [] else l) (if e = 0 then x else e) w w' := by
  obtain ⟨v1, h1, h2, h3⟩ := h
  exact (refuse_any wr base b v1 l e h1 x).mono (by rintro ev w' ⟨rfl, hp⟩; exact ⟨rfl, WPost.trans h2 h3 hp⟩)
set_option maxRecDepth 100000 in
set_option maxHeartbeats 2000000 in
theorem num_any (w : World) (base b : Nat) (v : Value) (l : List Int) (e : Int) (h : Wtr w base b v l e) (hb : base ≤ w.heap.size) (bytes : Int) (L : List Int) (p : Option Addr) (cap : Nat)
    (hp : L = [] ∨ ∃ lb lo, p = some ⟨lb, lo, none⟩ ∧ lb < w.heap.size ∧ ¬ Fp b v lb ∧ ∀ j, j < L.length → w.cell? ⟨lb, lo + j, none⟩ = some (.int .i64 (L.getD j 0)))
    (hsz : l.length + 8 * L.length ≤ 140737488355328) :
    Calls Tryz.prog 70 #[.pointer (some ⟨b, 0, none⟩), .int .i64 bytes, .slice p L.length cap] w fun ev w' => ev = .returned (.tuple #[]) ∧ WPost base b v (wl l e (errN bytes L) (outN bytes.toNat L)) (we e (errN bytes L)) w w' := by
  by_cases hw : 1 ≤ bytes ∧ bytes ≤ 8
  · obtain ⟨k, rfl⟩ := Int.eq_ofNat_of_zero_le (show 0 ≤ bytes by omega)
    have HW := hide (fun W => isWidth_any (k : Int) W)
    rw [decide_eq_true hw] at HW
    obtain ⟨hk1, hk8⟩ := hw
    have hE : errN (k : Int) L = if ∀ n ∈ L, fitsP n k then 0 else 30 := by rw [errN, if_neg (by omega), Int.toNat_natCast]
    rw [Int.toNat_natCast]
    have HS := hide (show WPost base b v (wl l e 0 (outN k (L.take 0))) e w w by
      rw [List.take_zero, show outN k [] = [] from rfl, wl_nil]
      exact WPost.refl h)
    have HE := hide hE
    clear hE h
    have hk1' : 1 ≤ k := by omega
    have hk8' : k ≤ 8 := by omega
    clear hk1 hk8
    have HPT := hide hp
    clear hp
    generalize errN (k : Int) L = E at *
    go_enter Tryz.func70, Tryz.ntmps70
    go_wp2_with (go_at_call 102; refine (unhide HW _).mono ?_; rintro ev w' ⟨rfl, rfl⟩)
    go_loopw [16] (fun u wr => ∃ i : Nat, i ≤ L.length ∧ u = .int .i64 (i : Int) ∧ (∀ n ∈ L.take i, fitsP n k) ∧ WPost base b v (wl l e 0 (outN k (L.take i))) e w' wr) (fun u _ => L.length - (intOf u).toNat)
    case atStart => exact ⟨0, by omega, rfl, fun n hn => by simp at hn, unhide HS⟩
    case round =>
      obtain ⟨i, hi, rfl, hall, hP⟩ := hrel
      have HP := hide hP
      have HA := hide hall
      clear hP hall HS HW
      obtain ⟨wo, rfl⟩ : ∃ wo, wo = wr := ⟨_, rfl⟩
      by_cases hiL : i < L.length
      · have hlen : (wl l e 0 (outN k (L.take i))).length + k ≤ 140737488355328 := by
          have h1 := wl_len l e (outN k (L.take i))
          rw [outN_len, List.length_take, Nat.min_eq_left (by omega)] at h1
          have h2 : k * i + k ≤ 8 * L.length := by
            have : k * (i + 1) ≤ 8 * L.length := Nat.mul_le_mul hk8' hiL
            rw [Nat.mul_succ] at this
            exact this
          omega
        obtain ⟨lb, lo, rfl, hlb, hfp, hc⟩ : ∃ lb lo, p = some ⟨lb, lo, none⟩ ∧ lb < w'.heap.size ∧ ¬ Fp b v lb ∧ ∀ j, j < L.length → w'.cell? ⟨lb, lo + j, none⟩ = some (.int .i64 (L.getD j 0)) := by
          rcases unhide HPT with h | h
          · subst h; simp at hiL
          · exact h
        have c1 : wo.cell? ⟨lb, lo + i, none⟩ = some (.int .i64 (L.getD i 0)) := by
          obtain ⟨v1, _, h2, _⟩ := unhide HP
          rw [World.cell?_of_block (w := w') (a := ⟨lb, lo + i, none⟩) (h2.2 lb hlb hfp)]
          exact hc i hiL
        have HN := hide (outN_snoc k L i hiL)
        have hmem : L.getD i 0 ∈ L := by
          rw [List.getD_eq_getElem?_getD, List.getElem?_eq_getElem hiL]
          exact List.getElem_mem _
        have HM := hide hmem
        have HT : Hid (L.take (i + 1) = L.take i ++ [L.getD i 0]) := hide (by rw [List.take_add_one, List.getElem?_eq_getElem hiL, List.getD_eq_getElem?_getD, List.getElem?_eq_getElem hiL]; rfl)
        clear hc hmem
        generalize L.getD i 0 = n at *
        have HF := hide (fun W => fits_any n k hk8' W)
        by_cases hf : fitsP n k
        · rw [decide_eq_true hf] at HF
          go_wp2_with (go_at_call 104; refine (unhide HF _).mono ?_; rintro ev w1 ⟨rfl, rfl⟩)
          clear c1 HF
          go_loopw [8] (fun u wr => ∃ q j : Nat, q + j = k ∧ u = .int .i64 ((q : Int) - 1) ∧ WPost base b v (wl l e 0 (outN k (L.take i) ++ (numB n k).take j)) e w' wr) (fun u _ => ((intOf u) + 1).toNat)
          case atStart => exact ⟨k, 0, by omega, rfl, by rw [List.take_zero, List.append_nil]; exact unhide HP⟩
          case round =>
            obtain ⟨q, j, hqj, rfl, hP2⟩ := hrel
            have HP2 := hide hP2
            clear hP2 HP
            cases q with
            | zero =>
              have hj : j = k := by omega
              subst hj
              go_wp2
              go_roundw
              case rel => exact ⟨i + 1, by omega, by go_num, fun x hx => by
                rw [unhide HT] at hx
                rcases List.mem_append.1 hx with h | h
                · exact unhide HA x h
                · rw [List.mem_singleton.1 h]; exact hf, by rw [unhide HN, ← numB_all n j]; exact unhide HP2⟩
              case measure => simp [intOf]; omega
            | succ q =>
              have hq1 : ((q + 1 : Nat) : Int) - 1 = (q : Int) := by omega
              rw [hq1]
              have ht : (8 * (q : Int)).toNat = 8 * q := by omega
              have h64 : 8 * (q : Int) ≤ 64 := by omega
              have hl2 : (wl l e 0 (outN k (L.take i) ++ (numB n k).take j)).length + 1 ≤ 140737488355328 := by
                have h1 := wl_len (wl l e 0 (outN k (L.take i))) e ((numB n k).take j)
                rw [wl_two] at h1
                have h2 : ((numB n k).take j).length ≤ j := by simp; omega
                omega
              have HX := hide (numB_take n k j (by omega))
              rw [show k - 1 - j = q by omega] at HX
              have hq8 : q ≤ 8 := by omega
              clear hq1
              go_wp2_with (go_at_call 105; refine (lay1 (unhide HP2) (by assumption) _ _ hl2).mono ?_; rintro ev w2 ⟨rfl, hP3⟩; have HP3 := hide hP3; clear hP3)
              go_roundw
              case rel => exact ⟨q, j + 1, by omega, by go_num, by rw [unhide HX, ← List.append_assoc, ← wl_two]; exact unhide HP3⟩
              case measure => simp [intOf]
        · rw [decide_eq_false hf] at HF
          have hEE : E = 30 := by rw [unhide HE, if_neg (fun q => hf (q n (unhide HM)))]
          go_wp2_with (first | (go_at_call 104; refine (unhide HF _).mono ?_; rintro ev w1 ⟨rfl, rfl⟩) | (go_at_call 103; refine (refuseP (unhide HP) 30).mono ?_; rintro ev w2 ⟨rfl, hP3⟩; have HP3 := hide hP3; clear hP3))
          (try simp only [Exit.inBlock, Exit.then])
          refine bodyPost_ret (results_none rfl _ _ _) rfl ⟨rfl, ?_⟩
          rw [← wl_bad l e E (outN k (L.take i)) _ (by omega), we, hEE]
          exact unhide HP3
      · have hEE : E = 0 := by
          rw [unhide HE, if_pos (fun n hn => unhide HA n (by rw [List.take_of_length_le (by omega)]; exact hn))]
        have HPE : Hid (WPost base b v (wl l e E (outN k L)) (we e E) w' wo) := hide (by
          have := unhide HP
          rw [List.take_of_length_le (by omega)] at this
          rw [hEE, we_ok]
          exact this)
        clear hEE
        go_wp2
        go_end0
        exact ⟨rfl, unhide HPE⟩
  · have HW := hide (fun W => isWidth_any bytes W)
    rw [decide_eq_false hw] at HW
    have hE : errN bytes L = 1 := by rw [errN, if_pos (by omega)]
    rw [hE]
    have HR := hide (refuse_any w base b v l e h 1)
    have e1 : (if e = 0 then [] else l) = wl l e 1 (outN bytes.toNat L) := by simp [wl]
    have e2 : (if e = 0 then (1 : Int) else e) = we e 1 := rfl
    rw [e1, e2] at HR
    generalize wl l e 1 (outN bytes.toNat L) = X at *
    generalize we e 1 = Y at *
    clear h hp hE e1 e2
    go_enter Tryz.func70, Tryz.ntmps70
    go_wp2_with (first | (go_at_call 102; refine (unhide HW _).mono ?_; rintro ev w1 ⟨rfl, rfl⟩) | (go_at_call 103; refine (unhide HR).mono ?_; rintro ev w2 ⟨rfl, hP3⟩; have HP3 := hide hP3; clear hP3))
    (try simp only [Exit.inBlock, Exit.then])
    exact bodyPost_ret (results_none rfl _ _ _) rfl ⟨rfl, unhide HP3⟩
/-- A call with which something is wrong. -/
theorem refuseW (w : World) (base b : Nat) (v : Value) (l : List Int) (e : Int) (h : Wtr w base b v l e) (x : Int) (hx : x ≠ 0) (out : List Int) :
    Calls Tryz.prog 103 #[.pointer (some ⟨b, 0, none⟩), .int .i64 x] w fun ev w' => ev = .returned (.tuple #[]) ∧ WPost base b v (wl l e x out) (we e x) w w' := by
  have h1 := refuse_any w base b v l e h x
  have e1 : (if e = 0 then [] else l) = wl l e x out := by simp [wl, hx]
  rw [e1] at h1
  exact h1
theorem there_bsl {w : World} {base b cap : Nat} {L : List Int} (h : Bsl w base b cap L) : ∀ j, j < L.length → w.cell? ((⟨b, 0, none⟩ : Addr).add j) = some (.int .u8 (L.getD j 0)) := by
  intro j hj
  rw [Addr.add_mid]
  exact h.2.2.2.2.1.get j hj
set_option maxRecDepth 100000 in
set_option maxHeartbeats 1000000 in
theorem raw_any (w : World) (base b : Nat) (v : Value) (l : List Int) (e : Int) (h : Wtr w base b v l e) (hb : base ≤ w.heap.size) (s : ByteArray) (hsz : l.length + s.size ≤ 140737488355328) :
    Calls Tryz.prog 106 #[.pointer (some ⟨b, 0, none⟩), .string s] w fun ev w' => ev = .returned (.tuple #[]) ∧ WPost base b v (wl l e 0 (nums s)) e w w' := by
  obtain ⟨cap, W, hrun, hB, hbel⟩ := Bsl.of_string w s (by omega)
  have hO : Only (fun _ => False) w W := Only.of_below hbel
  have HL := hide (lay_any W base b v l e (h.only hO (fun _ _ q => q)) (Nat.le_trans hb hbel.size) ⟨w.heap.size, 0, none⟩ s.size cap (nums s) (nums_len s) (fun j hj => there_bsl hB j (by rw [nums_len]; exact hj)) hsz)
  rw [← wl_ok] at HL
  have HO := hide hO
  clear h hB hbel hO
  generalize wl l e 0 (nums s) = X at *
  go_enter Tryz.func106, Tryz.ntmps106
  go_wp2_with (go_at_call 105; refine (unhide HL).mono ?_; rintro ev w2 ⟨rfl, hP3⟩; have HP3 := hide hP3; clear hP3)
  go_end0
  exact ⟨rfl, WPost.trans (v1 := v) ((unhide HO).mono (fun _ _ q => q.elim)) (fun k hk => .inl hk) (unhide HP3)⟩
end Go.Proofs.YtkkndlkelpdehaaGreatDoor

namespace Go.Proofs.YtkkndlkelpdehaaGreatDoor
open Go.RowKit
theorem Arr.of_owns {w : World} {base g cap n : Nat} {l : List Int} (h : w.ownsRow base 5 1 (.slice (some ⟨g, 0, none⟩) n cap) l.length (l.map (Value.int .u8))) : Arr w g 0 .u8 l := by
  intro j hj
  rcases h.2 with ⟨h1, _⟩ | ⟨g', cap', cur, h1, _, hh, hn, _, hs, hx⟩
  · cases h1
  · obtain ⟨rfl, rfl, rfl⟩ : g = g' ∧ n = l.length ∧ cap = cap' := by simpa using h1
    rw [Nat.mul_one] at hs hx
    rw [Nat.zero_add, cell_of_row w g j cur 5 (0, 0) hh]
    refine ⟨?_, by simp [World.frozen?, hh]⟩
    have e : cur.toList[j]? = (l.map (Value.int .u8))[j]? := by rw [← hx, List.getElem?_take, if_pos hj]
    rw [← Array.getElem?_toList, e]
    simp [hj]
set_option maxRecDepth 100000 in
set_option maxHeartbeats 1000000 in
theorem done_any (w : World) (base b : Nat) (v : Value) (l : List Int) (e : Int) (h : Wtr w base b v l e) :
    Calls Tryz.prog 71 #[.pointer (some ⟨b, 0, none⟩)] w fun ev w' => ev = .returned (.tuple #[.string (strOfNums l), .int .i64 e]) ∧ Below w.heap.size w w' := by
  have hcv : ∃ p cap, v = .slice p l.length cap ∧ (convert 59 9 (.slice p l.length cap)).run Tryz.prog w.drew = .ok (.string (strOfNums l)) w.drew := by
    rcases h.2.1.2 with ⟨h1, h2⟩ | ⟨g, cap, cur, h1, _, hh, hn, _, hs, hx⟩
    · obtain rfl : l = [] := List.eq_nil_of_length_eq_zero h2
      exact ⟨none, 0, h1, run_convert_bytes_nil (P := Tryz.prog) w.drew 59 5 Tryz.underlying59 Tryz.underlying5 0 0 9 Tryz.underlying9⟩
    · subst h1
      have hA : Arr w g 0 .u8 l := Arr.of_owns h.2.1
      exact ⟨some ⟨g, 0, none⟩, cap, rfl, run_convert_bytes_arg (P := Tryz.prog) w.drew 59 5 Tryz.underlying59 Tryz.underlying5 g 0 l.length cap l rfl (fun i hi => hA.get i hi) 9 Tryz.underlying9⟩
  obtain ⟨p, cap, rfl, hcv⟩ := hcv
  have c0 : w.cell? ⟨b, 0, none⟩ = some (.slice p l.length cap) := by rw [h.1.cell 0]; rfl
  have c1 : w.cell? ⟨b, 1, none⟩ = some (.int .i64 e) := by rw [h.1.cell 1]; rfl
  clear h
  generalize strOfNums l = S at *
  go_enter Tryz.func71, Tryz.ntmps71
  go_wp2
  go_region
  all_goals (try go_wp2)
  all_goals (go_ret2; exact ⟨rfl, (Below.refl _ _).drew⟩)
def errX (most : Int) (n : Nat) : Int := if most < 0 then 1 else if most < (n : Int) then 32 else 0
end Go.Proofs.YtkkndlkelpdehaaGreatDoor

namespace Go.Proofs.YtkkndlkelpdehaaGreatDoor
open Go.RowKit
theorem WPost.below {w wr w2 : World} {base b : Nat} {v : Value} {l : List Int} {e : Int} (h : WPost base b v l e w wr) (hb : Below wr.heap.size wr w2) : WPost base b v l e w w2 := by
  obtain ⟨v1, h1, h2, h3⟩ := h
  have hO : Only (fun _ => False) wr w2 := Only.of_below hb
  exact ⟨v1, h1.only hO (fun _ _ q => q), h2.trans hO (fun _ _ q => q.elim), h3⟩
theorem WPost.only {w wr w2 : World} {base b : Nat} {v : Value} {l : List Int} {e : Int} {P : Nat → Prop} (h : WPost base b v l e w wr) (hO : Only P wr w2) (hp : ∀ k, P k → k < w.heap.size ∧ ¬ Fp b v k) (hb : b < w.heap.size) : ∃ v', Wtr w2 base b v' l e ∧ (∀ k, v'.ownBlock = some k → v.ownBlock = some k ∨ w.heap.size ≤ k) := by
  obtain ⟨v1, h1, h2, h3⟩ := h
  refine ⟨v1, h1.only hO (fun k hk hpk => ?_), h3⟩
  obtain ⟨q1, q2⟩ := hp k hpk
  rcases hk with rfl | hk
  · exact q2 (.inl rfl)
  · rcases h3 k hk with h | h
    · exact q2 (.inr h)
    · omega
theorem WPost.alloc {w wr : World} {base b : Nat} {v : Value} {l : List Int} {e : Int} (h : WPost base b v l e w wr) (o : Obj) : WPost base b v l e w (wr.alloc o) := h.below ((Below.refl _ _).alloc (Nat.le_refl _) o)
theorem WPost.size {w wr : World} {base b : Nat} {v : Value} {l : List Int} {e : Int} (h : WPost base b v l e w wr) : w.heap.size ≤ wr.heap.size := by obtain ⟨_, _, h2, _⟩ := h; exact h2.size
theorem WPost.blk {w wr : World} {base b : Nat} {v : Value} {l : List Int} {e : Int} (h : WPost base b v l e w wr) {k : Nat} {cur : Array Value} {T : TypeId} (hB : Blk w k cur T) (hk : ¬ Fp b v k) : Blk wr k cur T := by obtain ⟨_, _, h2, _⟩ := h; exact hB.only h2 hk
theorem rawK {w wr : World} {base b : Nat} {v : Value} {l : List Int} {e : Int} (h : WPost base b v l e w wr) (hb : base ≤ w.heap.size) (s : ByteArray) (hsz : l.length + s.size ≤ 140737488355328) :
    Calls Tryz.prog 106 #[.pointer (some ⟨b, 0, none⟩), .string s] wr fun ev w' => ev = .returned (.tuple #[]) ∧ WPost base b v (wl l e 0 (nums s)) e w w' := by
  obtain ⟨v1, h1, h2, h3⟩ := h
  exact (raw_any wr base b v1 l e h1 (Nat.le_trans hb h2.size) s hsz).mono (by rintro ev w' ⟨rfl, hp⟩; exact ⟨rfl, WPost.trans h2 h3 hp⟩)
theorem numK {w wr : World} {base b : Nat} {v : Value} {l : List Int} {e : Int} (h : WPost base b v l e w wr) (hb : base ≤ w.heap.size) (bytes : Int) (L : List Int) (cur : Array Value) (hc : cur = (L.map (Value.int .i64)).toArray) (hsz : l.length + 8 * L.length ≤ 140737488355328) (m : Nat) (hm : m = L.length) :
    Calls Tryz.prog 70 #[.pointer (some ⟨b, 0, none⟩), .int .i64 bytes, .slice (some ⟨wr.heap.size, 0, none⟩) m m] (wr.alloc (Obj.cells cur 3)) fun ev w' => ev = .returned (.tuple #[]) ∧ WPost base b v (wl l e (errN bytes L) (outN bytes.toNat L)) (we e (errN bytes L)) w w' := by
  subst hc hm
  obtain ⟨v1, h1, h2, h3⟩ := h
  have hA := (Only.refl (fun _ => False) wr).alloc (Obj.cells (L.map (Value.int .i64)).toArray 3)
  have hB := Blk.new wr 3 (L.map (Value.int .i64)).toArray
  refine (num_any (wr.alloc (Obj.cells (L.map (Value.int .i64)).toArray 3)) base b v1 l e (h1.only hA (fun _ _ q => q)) (by have := h2.size; simp; omega) bytes L (some ⟨wr.heap.size, 0, none⟩) L.length (.inr ⟨wr.heap.size, 0, rfl, by simp, ?_, fun j hj => ?_⟩) hsz).mono ?_
  · rintro (hq | hq)
    · have := h1.lt; omega
    · have := (h1.2.1.lt _ hq).2; omega
  · rw [Nat.zero_add, hB.cell j]
    simp [hj]
  · rintro ev w' ⟨rfl, hp⟩
    exact ⟨rfl, WPost.trans (h2.alloc _) h3 hp⟩
theorem doneK {w wr : World} {base b : Nat} {v : Value} {l : List Int} {e : Int} (h : WPost base b v l e w wr) :
    Calls Tryz.prog 71 #[.pointer (some ⟨b, 0, none⟩)] wr fun ev w' => ev = .returned (.tuple #[.string (strOfNums l), .int .i64 e]) ∧ WPost base b v l e w w' := by
  have h' := h
  obtain ⟨v1, h1, h2, h3⟩ := h
  exact (done_any wr base b v1 l e h1).mono (by rintro ev w' ⟨rfl, hb⟩; exact ⟨rfl, h'.below hb⟩)
theorem wl_good (l out : List Int) : wl l 0 0 out = l ++ out := by simp [wl]
theorem we_good : we 0 0 = 0 := rfl
end Go.Proofs.YtkkndlkelpdehaaGreatDoor

namespace Go.Proofs.YtkkndlkelpdehaaGreatDoor
open Go.RowKit
/-- A Writer that was made in w has laid these down, and nothing was wrong. -/
def TWr (w : World) (l : List Int) (wr : World) : Prop := ∃ v, Wtr wr w.heap.size w.heap.size v l 0 ∧ Below w.heap.size w wr
theorem TWr.start {w x1 : World} (hR : Wtr x1 w.heap.size w.heap.size (.slice none 0 0) [] 0) (hB : Below w.heap.size w x1) : TWr w [] x1 := ⟨_, hR, hB⟩
theorem TWr.bel {w wr : World} {l : List Int} (h : TWr w l wr) : Below w.heap.size w wr := by obtain ⟨_, _, h⟩ := h; exact h
theorem TWr.below {w wr w2 : World} {l : List Int} (h : TWr w l wr) (hB : Below wr.heap.size wr w2) : TWr w l w2 := by
  obtain ⟨v, h1, h2⟩ := h
  exact ⟨v, h1.only (Only.of_below (P := fun _ => False) hB) (fun _ _ q => q), h2.trans (hB.mono h2.size)⟩
theorem TWr.keep {w x x3 : World} {v : Value} {l l' : List Int} {e : Int} (h : Wtr x w.heap.size w.heap.size v l e) (hb : Below w.heap.size w x) (hP : WPost w.heap.size w.heap.size v l' 0 x x3) : TWr w l' x3 := by
  obtain ⟨v', h1, h2, _⟩ := hP
  refine ⟨v', h1, hb.trans (h2.below hb.size (fun k hk q => ?_))⟩
  rcases q with q | q
  · omega
  · have := (h.2.1.lt k q).1
    omega
theorem TWr.num {w W wr : World} {l : List Int} (h : TWr w l W) (hB : Below W.heap.size W wr) (N : Nat) (h1 : 1 ≤ N) (h8 : N ≤ 8) (L : List Int) (hf : ∀ z ∈ L, fitsP z N) (p : Option Addr) (n c : Nat) (hn : n = L.length) (hL : Inl wr p L) (hp : ∀ k o, p = some ⟨k, o, none⟩ → W.heap.size ≤ k ∨ k < w.heap.size) (hsz : l.length + 8 * L.length ≤ 140737488355328) (z : Int) (hz : z = (N : Int)) :
    Calls Tryz.prog 70 #[.pointer (some ⟨w.heap.size, 0, none⟩), .int .i64 z, .slice p n c] wr fun ev w' => ev = .returned (.tuple #[]) ∧ TWr w (l ++ outN N L) w' := by
  subst hn hz
  obtain ⟨v, g1, g2⟩ := h
  have hw : Wtr wr w.heap.size w.heap.size v l 0 := g1.only (Only.of_below (P := fun _ => False) hB) (fun _ _ q => q)
  have hb : Below w.heap.size w wr := g2.trans (hB.mono g2.size)
  have hE : errN (N : Int) L = 0 := by rw [errN, if_neg (by omega), Int.toNat_natCast, if_pos hf]
  have hF : ∀ k o, p = some ⟨k, o, none⟩ → ¬ Fp w.heap.size v k := fun k o e q => by
    have := hp k o e
    rcases q with rfl | q
    · have := g1.lt; omega
    · have := (g1.2.1.lt k q); omega
  have hq := num_any wr w.heap.size w.heap.size v l 0 hw hb.size (N : Int) L p c (by
    rcases hL with q | ⟨lb, lo, e, q1, q2⟩
    · exact .inl q
    · exact .inr ⟨lb, lo, e, q1, hF lb lo e, q2⟩) hsz
  rw [hE, Int.toNat_natCast, wl_good] at hq
  refine hq.mono ?_
  rintro ev w' ⟨rfl, hP⟩
  exact ⟨rfl, TWr.keep hw hb hP⟩
theorem TWr.done {w wr : World} {l : List Int} (h : TWr w l wr) :
    Calls Tryz.prog 71 #[.pointer (some ⟨w.heap.size, 0, none⟩)] wr fun ev w' => ev = .returned (.tuple #[.string (strOfNums l), .int .i64 0]) ∧ Below wr.heap.size wr w' := by
  obtain ⟨v, hw, hb⟩ := h
  exact (done_any wr w.heap.size w.heap.size v l 0 hw).mono (fun ev w' h => h)
theorem inl_new (x : World) (z : Int) : Inl (x.alloc (Obj.cells #[.int .i64 z] 3)) (some ⟨x.heap.size, 0, none⟩) [z] := by
  refine .inr ⟨_, 0, rfl, (Blk.new x 3 #[.int .i64 z]).lt, fun j hj => ?_⟩
  obtain rfl : j = 0 := by simpa using hj
  rw [Nat.zero_add, (Blk.new x 3 #[.int .i64 z]).cell 0]
  rfl
end Go.Proofs.YtkkndlkelpdehaaGreatDoor
