import Derived.Test.YtnfdedolgfcmfaaGreatDoorMrc00
import Derived.Test.YtnfdedolgfcmfaaGreatDoorMrc05
import Derived.BigQuiet
namespace Go.Proofs.YtnfdedolgfcmfaaGreatDoor
open Go.RowKit
/-- A number by so many bytes, the highest first. -/
def numB (v : Int) (size : Nat) : List Int := (List.range size).map (fun i => v / 2 ^ (8 * (size - 1 - i)) % 256)
theorem numB_len (v : Int) (size : Nat) : (numB v size).length = size := by simp [numB]
theorem numB_bytes (v : Int) (size : Nat) : Bytes (numB v size) := by
  intro j
  by_cases h : j < size
  · have : (numB v size).getD j 0 = v / 2 ^ (8 * (size - 1 - j)) % 256 := by simp [numB, h]
    rw [this]
    omega
  · have : (numB v size).getD j 0 = 0 := by simp [numB, h]
    rw [this]
    omega
theorem numB_take (v : Int) (size j : Nat) (h : j < size) : (numB v size).take (j + 1) = (numB v size).take j ++ [v / 2 ^ (8 * (size - 1 - j)) % 256] := by
  have hl : j < (numB v size).length := by rw [numB_len]; exact h
  rw [List.take_add_one, List.getElem?_eq_getElem hl]
  simp [numB]
theorem numB_all (v : Int) (size : Nat) : (numB v size).take size = numB v size := List.take_of_length_le (by rw [numB_len]; exact Nat.le_refl _)
/-- May a number stand in so many bytes? -/
def fitsP (n : Int) (k : Nat) : Prop := 0 ≤ n ∧ n / 2 ^ (8 * k) = 0
instance (n : Int) (k : Nat) : Decidable (fitsP n k) := inferInstanceAs (Decidable (_ ∧ _))
def errN (bytes : Int) (L : List Int) : Int := if bytes < 1 ∨ 8 < bytes then 1 else if ∀ n ∈ L, fitsP n bytes.toNat then 0 else 30
def outN (k : Nat) (L : List Int) : List Int := L.flatMap (fun n => numB n k)
theorem outN_len (k : Nat) (L : List Int) : (outN k L).length = k * L.length := by
  induction L with
  | nil => simp [outN]
  | cons x L ih => simp [outN, numB_len] at *; rw [ih]; grind
theorem outN_snoc (k : Nat) (L : List Int) (i : Nat) (hi : i < L.length) : outN k (L.take (i + 1)) = outN k (L.take i) ++ numB (L.getD i 0) k := by
  rw [List.take_add_one, List.getElem?_eq_getElem hi, List.getD_eq_getElem?_getD, List.getElem?_eq_getElem hi]
  show (L.take i ++ [L[i]]).flatMap _ = _
  rw [List.flatMap_append]
  simp [outN]
/-- The row and the first fault behind a call that lays 'out' down, or with which 'err' is wrong. -/
def wl (l : List Int) (e err : Int) (out : List Int) : List Int := if e = 0 then (if err = 0 then l ++ out else []) else l
def we (e err : Int) : Int := if e = 0 then err else e
theorem wl_ok (l : List Int) (e : Int) (out : List Int) : wl l e 0 out = if e = 0 then l ++ out else l := by simp [wl]
theorem wl_two (l : List Int) (e : Int) (o1 o2 : List Int) : wl (wl l e 0 o1) e 0 o2 = wl l e 0 (o1 ++ o2) := by
  by_cases h : e = 0 <;> simp [wl, h]
theorem wl_nil (l : List Int) (e : Int) : wl l e 0 [] = l := by simp [wl]
theorem wl_len (l : List Int) (e : Int) (out : List Int) : (wl l e 0 out).length ≤ l.length + out.length := by
  by_cases h : e = 0 <;> simp [wl, h]
theorem we_ok (e : Int) : we e 0 = e := by unfold we; split <;> omega
theorem wl_bad (l : List Int) (e err : Int) (o1 o2 : List Int) (h : err ≠ 0) : (if e = 0 then [] else wl l e 0 o1) = wl l e err o2 := by
  by_cases he : e = 0 <;> simp [wl, he, h]
end Go.Proofs.YtnfdedolgfcmfaaGreatDoor

namespace Go.Proofs.YtnfdedolgfcmfaaGreatDoor
open Go.RowKit
set_option maxHeartbeats 400000 in
theorem isWidth_any (n : Int) (w : World) : Calls Tryz.prog 87 #[.int .i64 n] w fun e w' => e = .returned (.bool (decide (1 ≤ n ∧ n ≤ 8))) ∧ w' = w := by
  by_cases h : 1 ≤ n
  · by_cases h8 : n ≤ 8
    · have hd : decide (1 ≤ n ∧ n ≤ 8) = true := decide_eq_true ⟨h, h8⟩
      rw [hd]
      go_enter Tryz.func87, Tryz.ntmps87
      go_wp2
      go_ret
      exact ⟨rfl, rfl⟩
    · have hd : decide (1 ≤ n ∧ n ≤ 8) = false := decide_eq_false (fun q => h8 q.2)
      rw [hd]
      go_enter Tryz.func87, Tryz.ntmps87
      go_wp2
      go_ret
      exact ⟨rfl, rfl⟩
  · have hd : decide (1 ≤ n ∧ n ≤ 8) = false := decide_eq_false (fun q => h q.1)
    rw [hd]
    go_enter Tryz.func87, Tryz.ntmps87
    go_wp2
    go_ret
    exact ⟨rfl, rfl⟩
set_option maxHeartbeats 400000 in
theorem fits_any (n : Int) (k : Nat) (hk : k ≤ 8) (w : World) : Calls Tryz.prog 89 #[.int .i64 n, .int .i64 (k : Int)] w fun e w' => e = .returned (.bool (decide (fitsP n k))) ∧ w' = w := by
  by_cases h : 0 ≤ n
  · obtain ⟨q, hq⟩ : ∃ q, n / 2 ^ (8 * k) = q := ⟨_, rfl⟩
    have ht : (8 * (k : Int)).toNat = 8 * k := by omega
    have hd : decide (fitsP n k) = (q == 0) := by
      rw [show (q == 0) = decide (q = 0) from rfl]
      apply decide_eq_decide.2
      rw [← hq]
      exact ⟨fun x => x.2, fun x => ⟨h, x⟩⟩
    rw [hd]
    clear hd
    have h2 : 8 * (k : Int) ≤ 64 := by omega
    go_enter Tryz.func89, Tryz.ntmps89
    go_wp2
    go_ret
    exact ⟨by rw [← hq]; rfl, rfl⟩
  · have hd : decide (fitsP n k) = false := decide_eq_false (fun q => h q.1)
    rw [hd]
    go_enter Tryz.func89, Tryz.ntmps89
    go_wp2
    go_ret
    exact ⟨rfl, rfl⟩
/-- One byte more, behind what was done since w. -/
theorem lay1 {w wr : World} {base b : Nat} {v : Value} {l : List Int} {e : Int} (h : WPost base b v l e w wr) (hb : base ≤ w.heap.size) (x : Int) (T : TypeId) (hsz : l.length + 1 ≤ 140737488355328) :
    Calls Tryz.prog 86 #[.pointer (some ⟨b, 0, none⟩), .slice (some ⟨wr.heap.size, 0, none⟩) 1 1] (wr.alloc (Obj.cells #[.int .u8 x] T)) fun ev w' => ev = .returned (.tuple #[]) ∧ WPost base b v (wl l e 0 [x]) e w w' := by
  obtain ⟨v1, h1, h2, h3⟩ := h
  have hA := (Only.refl (fun _ => False) wr).alloc (Obj.cells #[.int .u8 x] T)
  have hsw := h2.size
  refine (lay_any (wr.alloc (Obj.cells #[.int .u8 x] T)) base b v1 l e (h1.only hA (fun _ _ q => q)) (by simp; omega) ⟨wr.heap.size, 0, none⟩ 1 1 [x] rfl (fun j hj => ?_) hsz).mono ?_
  · obtain rfl : j = 0 := by omega
    simp [Addr.add]
  · rintro ev w' ⟨rfl, hp⟩
    refine ⟨rfl, ?_⟩
    rw [wl_ok]
    exact WPost.trans (h2.alloc _) h3 hp
end Go.Proofs.YtnfdedolgfcmfaaGreatDoor

namespace Go.Proofs.YtnfdedolgfcmfaaGreatDoor
open Go.RowKit
theorem refuseP {w wr : World} {base b : Nat} {v : Value} {l : List Int} {e : Int} (h : WPost base b v l e w wr) (x : Int) :
    Calls Tryz.prog 88 #[.pointer (some ⟨b, 0, none⟩), .int .i64 x] wr fun ev w' => ev = .returned (.tuple #[]) ∧ WPost base b v (if e = 0 then [] else l) (if e = 0 then x else e) w w' := by
  obtain ⟨v1, h1, h2, h3⟩ := h
  exact (refuse_any wr base b v1 l e h1 x).mono (by rintro ev w' ⟨rfl, hp⟩; exact ⟨rfl, WPost.trans h2 h3 hp⟩)
set_option maxRecDepth 100000 in
set_option maxHeartbeats 2000000 in
theorem num_any (w : World) (base b : Nat) (v : Value) (l : List Int) (e : Int) (h : Wtr w base b v l e) (hb : base ≤ w.heap.size) (bytes : Int) (L : List Int) (p : Option Addr) (cap : Nat)
    (hp : L = [] ∨ ∃ lb lo, p = some ⟨lb, lo, none⟩ ∧ lb < w.heap.size ∧ ¬ Fp b v lb ∧ ∀ j, j < L.length → w.cell? ⟨lb, lo + j, none⟩ = some (.int .i64 (L.getD j 0)))
    (hsz : l.length + 8 * L.length ≤ 140737488355328) :
    Calls Tryz.prog 52 #[.pointer (some ⟨b, 0, none⟩), .int .i64 bytes, .slice p L.length cap] w fun ev w' => ev = .returned (.tuple #[]) ∧ WPost base b v (wl l e (errN bytes L) (outN bytes.toNat L)) (we e (errN bytes L)) w w' := by
  by_cases hw : 1 ≤ bytes ∧ bytes ≤ 8
  · obtain ⟨k, rfl⟩ := Int.eq_ofNat_of_zero_le (show 0 ≤ bytes by omega)
    have HW := hide (fun W => isWidth_any (k : Int) W)
    rw [decide_eq_true hw] at HW
    obtain ⟨hk1, hk8⟩ := hw
    have hE : errN (k : Int) L = if ∀ n ∈ L, fitsP n k then 0 else 30 := by rw [errN, if_neg (by omega), Int.toNat_natCast]
    rw [Int.toNat_natCast]
    have HS := hide (show WPost base b v (wl l e 0 (outN k (L.take 0))) e w w by
      rw [List.take_zero, show outN k [] = [] from rfl, wl_nil]
      exact WPost.refl h)
    have HE := hide hE
    clear hE h
    have hk1' : 1 ≤ k := by omega
    have hk8' : k ≤ 8 := by omega
    clear hk1 hk8
    have HPT := hide hp
    clear hp
    generalize errN (k : Int) L = E at *
    go_enter Tryz.func52, Tryz.ntmps52
    go_wp2_with (go_at_call 87; refine (unhide HW _).mono ?_; rintro ev w' ⟨rfl, rfl⟩)
    go_loopw [16] (fun u wr => ∃ i : Nat, i ≤ L.length ∧ u = .int .i64 (i : Int) ∧ (∀ n ∈ L.take i, fitsP n k) ∧ WPost base b v (wl l e 0 (outN k (L.take i))) e w' wr) (fun u _ => L.length - (intOf u).toNat)
    case atStart => exact ⟨0, by omega, rfl, fun n hn => by simp at hn, unhide HS⟩
    case round =>
      obtain ⟨i, hi, rfl, hall, hP⟩ := hrel
      have HP := hide hP
      have HA := hide hall
      clear hP hall HS HW
      obtain ⟨wo, rfl⟩ : ∃ wo, wo = wr := ⟨_, rfl⟩
      by_cases hiL : i < L.length
      · have hlen : (wl l e 0 (outN k (L.take i))).length + k ≤ 140737488355328 := by
          have h1 := wl_len l e (outN k (L.take i))
          rw [outN_len, List.length_take, Nat.min_eq_left (by omega)] at h1
          have h2 : k * i + k ≤ 8 * L.length := by
            have : k * (i + 1) ≤ 8 * L.length := Nat.mul_le_mul hk8' hiL
            rw [Nat.mul_succ] at this
            exact this
          omega
        obtain ⟨lb, lo, rfl, hlb, hfp, hc⟩ : ∃ lb lo, p = some ⟨lb, lo, none⟩ ∧ lb < w'.heap.size ∧ ¬ Fp b v lb ∧ ∀ j, j < L.length → w'.cell? ⟨lb, lo + j, none⟩ = some (.int .i64 (L.getD j 0)) := by
          rcases unhide HPT with h | h
          · subst h; simp at hiL
          · exact h
        have c1 : wo.cell? ⟨lb, lo + i, none⟩ = some (.int .i64 (L.getD i 0)) := by
          obtain ⟨v1, _, h2, _⟩ := unhide HP
          rw [World.cell?_of_block (w := w') (a := ⟨lb, lo + i, none⟩) (h2.2 lb hlb hfp)]
          exact hc i hiL
        have HN := hide (outN_snoc k L i hiL)
        have hmem : L.getD i 0 ∈ L := by
          rw [List.getD_eq_getElem?_getD, List.getElem?_eq_getElem hiL]
          exact List.getElem_mem _
        have HM := hide hmem
        have HT : Hid (L.take (i + 1) = L.take i ++ [L.getD i 0]) := hide (by rw [List.take_add_one, List.getElem?_eq_getElem hiL, List.getD_eq_getElem?_getD, List.getElem?_eq_getElem hiL]; rfl)
        clear hc hmem
        generalize L.getD i 0 = n at *
        have HF := hide (fun W => fits_any n k hk8' W)
        by_cases hf : fitsP n k
        · rw [decide_eq_true hf] at HF
          go_wp2_with (go_at_call 89; refine (unhide HF _).mono ?_; rintro ev w1 ⟨rfl, rfl⟩)
          clear c1 HF
          go_loopw [8] (fun u wr => ∃ q j : Nat, q + j = k ∧ u = .int .i64 ((q : Int) - 1) ∧ WPost base b v (wl l e 0 (outN k (L.take i) ++ (numB n k).take j)) e w' wr) (fun u _ => ((intOf u) + 1).toNat)
          case atStart => exact ⟨k, 0, by omega, rfl, by rw [List.take_zero, List.append_nil]; exact unhide HP⟩
          case round =>
            obtain ⟨q, j, hqj, rfl, hP2⟩ := hrel
            have HP2 := hide hP2
            clear hP2 HP
            cases q with
            | zero =>
              have hj : j = k := by omega
              subst hj
              go_wp2
              go_roundw
              case rel => exact ⟨i + 1, by omega, by go_num, fun x hx => by
                rw [unhide HT] at hx
                rcases List.mem_append.1 hx with h | h
                · exact unhide HA x h
                · rw [List.mem_singleton.1 h]; exact hf, by rw [unhide HN, ← numB_all n j]; exact unhide HP2⟩
              case measure => simp [intOf]; omega
            | succ q =>
              have hq1 : ((q + 1 : Nat) : Int) - 1 = (q : Int) := by omega
              rw [hq1]
              have ht : (8 * (q : Int)).toNat = 8 * q := by omega
              have h64 : 8 * (q : Int) ≤ 64 := by omega
              have hl2 : (wl l e 0 (outN k (L.take i) ++ (numB n k).take j)).length + 1 ≤ 140737488355328 := by
                have h1 := wl_len (wl l e 0 (outN k (L.take i))) e ((numB n k).take j)
                rw [wl_two] at h1
                have h2 : ((numB n k).take j).length ≤ j := by simp; omega
                omega
              have HX := hide (numB_take n k j (by omega))
              rw [show k - 1 - j = q by omega] at HX
              have hq8 : q ≤ 8 := by omega
              clear hq1
              go_wp2_with (go_at_call 86; refine (lay1 (unhide HP2) (by assumption) _ _ hl2).mono ?_; rintro ev w2 ⟨rfl, hP3⟩; have HP3 := hide hP3; clear hP3)
              go_roundw
              case rel => exact ⟨q, j + 1, by omega, by go_num, by rw [unhide HX, ← List.append_assoc, ← wl_two]; exact unhide HP3⟩
              case measure => simp [intOf]
        · rw [decide_eq_false hf] at HF
          have hEE : E = 30 := by rw [unhide HE, if_neg (fun q => hf (q n (unhide HM)))]
          go_wp2_with (first | (go_at_call 89; refine (unhide HF _).mono ?_; rintro ev w1 ⟨rfl, rfl⟩) | (go_at_call 88; refine (refuseP (unhide HP) 30).mono ?_; rintro ev w2 ⟨rfl, hP3⟩; have HP3 := hide hP3; clear hP3))
          (try simp only [Exit.inBlock, Exit.then])
          refine bodyPost_ret (results_none rfl _ _ _) rfl ⟨rfl, ?_⟩
          rw [← wl_bad l e E (outN k (L.take i)) _ (by omega), we, hEE]
          exact unhide HP3
      · have hEE : E = 0 := by
          rw [unhide HE, if_pos (fun n hn => unhide HA n (by rw [List.take_of_length_le (by omega)]; exact hn))]
        have HPE : Hid (WPost base b v (wl l e E (outN k L)) (we e E) w' wo) := hide (by
          have := unhide HP
          rw [List.take_of_length_le (by omega)] at this
          rw [hEE, we_ok]
          exact this)
        clear hEE
        go_wp2
        go_end0
        exact ⟨rfl, unhide HPE⟩
  · have HW := hide (fun W => isWidth_any bytes W)
    rw [decide_eq_false hw] at HW
    have hE : errN bytes L = 1 := by rw [errN, if_pos (by omega)]
    rw [hE]
    have HR := hide (refuse_any w base b v l e h 1)
    have e1 : (if e = 0 then [] else l) = wl l e 1 (outN bytes.toNat L) := by simp [wl]
    have e2 : (if e = 0 then (1 : Int) else e) = we e 1 := rfl
    rw [e1, e2] at HR
    generalize wl l e 1 (outN bytes.toNat L) = X at *
    generalize we e 1 = Y at *
    clear h hp hE e1 e2
    go_enter Tryz.func52, Tryz.ntmps52
    go_wp2_with (first | (go_at_call 87; refine (unhide HW _).mono ?_; rintro ev w1 ⟨rfl, rfl⟩) | (go_at_call 88; refine (unhide HR).mono ?_; rintro ev w2 ⟨rfl, hP3⟩; have HP3 := hide hP3; clear hP3))
    (try simp only [Exit.inBlock, Exit.then])
    exact bodyPost_ret (results_none rfl _ _ _) rfl ⟨rfl, unhide HP3⟩
theorem there_bsl {w : World} {base b cap : Nat} {L : List Int} (h : Bsl w base b cap L) : ∀ j, j < L.length → w.cell? ((⟨b, 0, none⟩ : Addr).add j) = some (.int .u8 (L.getD j 0)) := by
  intro j hj
  rw [Addr.add_mid]
  exact h.2.2.2.2.1.get j hj
set_option maxRecDepth 100000 in
set_option maxHeartbeats 1000000 in
theorem raw_any (w : World) (base b : Nat) (v : Value) (l : List Int) (e : Int) (h : Wtr w base b v l e) (hb : base ≤ w.heap.size) (s : ByteArray) (hsz : l.length + s.size ≤ 140737488355328) :
    Calls Tryz.prog 51 #[.pointer (some ⟨b, 0, none⟩), .string s] w fun ev w' => ev = .returned (.tuple #[]) ∧ WPost base b v (wl l e 0 (nums s)) e w w' := by
  obtain ⟨cap, W, hrun, hB, hbel⟩ := Bsl.of_string w s (by omega)
  have hO : Only (fun _ => False) w W := Only.of_below hbel
  have HL := hide (lay_any W base b v l e (h.only hO (fun _ _ q => q)) (Nat.le_trans hb hbel.size) ⟨w.heap.size, 0, none⟩ s.size cap (nums s) (nums_len s) (fun j hj => there_bsl hB j (by rw [nums_len]; exact hj)) hsz)
  rw [← wl_ok] at HL
  have HO := hide hO
  clear h hB hbel hO
  generalize wl l e 0 (nums s) = X at *
  go_enter Tryz.func51, Tryz.ntmps51
  go_wp2_with (go_at_call 86; refine (unhide HL).mono ?_; rintro ev w2 ⟨rfl, hP3⟩; have HP3 := hide hP3; clear hP3)
  go_end0
  exact ⟨rfl, WPost.trans (v1 := v) ((unhide HO).mono (fun _ _ q => q.elim)) (fun k hk => .inl hk) (unhide HP3)⟩
end Go.Proofs.YtnfdedolgfcmfaaGreatDoor

namespace Go.Proofs.YtnfdedolgfcmfaaGreatDoor
open Go.RowKit
theorem Arr.of_owns {w : World} {base g cap n : Nat} {l : List Int} (h : w.ownsRow base 5 1 (.slice (some ⟨g, 0, none⟩) n cap) l.length (l.map (Value.int .u8))) : Arr w g 0 .u8 l := by
  intro j hj
  rcases h.2 with ⟨h1, _⟩ | ⟨g', cap', cur, h1, _, hh, hn, _, hs, hx⟩
  · cases h1
  · obtain ⟨rfl, rfl, rfl⟩ : g = g' ∧ n = l.length ∧ cap = cap' := by simpa using h1
    rw [Nat.mul_one] at hs hx
    rw [Nat.zero_add, cell_of_row w g j cur 5 (0, 0) hh]
    refine ⟨?_, by simp [World.frozen?, hh]⟩
    have e : cur.toList[j]? = (l.map (Value.int .u8))[j]? := by rw [← hx, List.getElem?_take, if_pos hj]
    rw [← Array.getElem?_toList, e]
    simp [hj]
set_option maxRecDepth 100000 in
set_option maxHeartbeats 1000000 in
theorem done_any (w : World) (base b : Nat) (v : Value) (l : List Int) (e : Int) (h : Wtr w base b v l e) :
    Calls Tryz.prog 54 #[.pointer (some ⟨b, 0, none⟩)] w fun ev w' => ev = .returned (.tuple #[.string (strOfNums l), .int .i64 e]) ∧ Below w.heap.size w w' := by
  have hcv : ∃ p cap, v = .slice p l.length cap ∧ (convert 122 9 (.slice p l.length cap)).run Tryz.prog w.drew = .ok (.string (strOfNums l)) w.drew := by
    rcases h.2.1.2 with ⟨h1, h2⟩ | ⟨g, cap, cur, h1, _, hh, hn, _, hs, hx⟩
    · obtain rfl : l = [] := List.eq_nil_of_length_eq_zero h2
      exact ⟨none, 0, h1, run_convert_bytes_nil (P := Tryz.prog) w.drew 122 5 Tryz.underlying122 Tryz.underlying5 0 0 9 Tryz.underlying9⟩
    · subst h1
      have hA : Arr w g 0 .u8 l := Arr.of_owns h.2.1
      exact ⟨some ⟨g, 0, none⟩, cap, rfl, run_convert_bytes_arg (P := Tryz.prog) w.drew 122 5 Tryz.underlying122 Tryz.underlying5 g 0 l.length cap l rfl (fun i hi => hA.get i hi) 9 Tryz.underlying9⟩
  obtain ⟨p, cap, rfl, hcv⟩ := hcv
  have c0 : w.cell? ⟨b, 0, none⟩ = some (.slice p l.length cap) := by rw [h.1.cell 0]; rfl
  have c1 : w.cell? ⟨b, 1, none⟩ = some (.int .i64 e) := by rw [h.1.cell 1]; rfl
  clear h
  generalize strOfNums l = S at *
  go_enter Tryz.func54, Tryz.ntmps54
  go_wp2
  go_region
  all_goals (try go_wp2)
  all_goals (go_ret2; exact ⟨rfl, (Below.refl _ _).drew⟩)
end Go.Proofs.YtnfdedolgfcmfaaGreatDoor

namespace Go.Proofs.YtnfdedolgfcmfaaGreatDoor
open Go.RowKit
theorem WPost.below {w wr w2 : World} {base b : Nat} {v : Value} {l : List Int} {e : Int} (h : WPost base b v l e w wr) (hb : Below wr.heap.size wr w2) : WPost base b v l e w w2 := by
  obtain ⟨v1, h1, h2, h3⟩ := h
  have hO : Only (fun _ => False) wr w2 := Only.of_below hb
  exact ⟨v1, h1.only hO (fun _ _ q => q), h2.trans hO (fun _ _ q => q.elim), h3⟩
theorem WPost.only {w wr w2 : World} {base b : Nat} {v : Value} {l : List Int} {e : Int} {P : Nat → Prop} (h : WPost base b v l e w wr) (hO : Only P wr w2) (hp : ∀ k, P k → k < w.heap.size ∧ ¬ Fp b v k) (hb : b < w.heap.size) : ∃ v', Wtr w2 base b v' l e ∧ (∀ k, v'.ownBlock = some k → v.ownBlock = some k ∨ w.heap.size ≤ k) := by
  obtain ⟨v1, h1, h2, h3⟩ := h
  refine ⟨v1, h1.only hO (fun k hk hpk => ?_), h3⟩
  obtain ⟨q1, q2⟩ := hp k hpk
  rcases hk with rfl | hk
  · exact q2 (.inl rfl)
  · rcases h3 k hk with h | h
    · exact q2 (.inr h)
    · omega
theorem WPost.alloc {w wr : World} {base b : Nat} {v : Value} {l : List Int} {e : Int} (h : WPost base b v l e w wr) (o : Obj) : WPost base b v l e w (wr.alloc o) := h.below ((Below.refl _ _).alloc (Nat.le_refl _) o)
theorem WPost.size {w wr : World} {base b : Nat} {v : Value} {l : List Int} {e : Int} (h : WPost base b v l e w wr) : w.heap.size ≤ wr.heap.size := by obtain ⟨_, _, h2, _⟩ := h; exact h2.size
theorem WPost.blk {w wr : World} {base b : Nat} {v : Value} {l : List Int} {e : Int} (h : WPost base b v l e w wr) {k : Nat} {cur : Array Value} {T : TypeId} (hB : Blk w k cur T) (hk : ¬ Fp b v k) : Blk wr k cur T := by obtain ⟨_, _, h2, _⟩ := h; exact hB.only h2 hk
theorem rawK {w wr : World} {base b : Nat} {v : Value} {l : List Int} {e : Int} (h : WPost base b v l e w wr) (hb : base ≤ w.heap.size) (s : ByteArray) (hsz : l.length + s.size ≤ 140737488355328) :
    Calls Tryz.prog 51 #[.pointer (some ⟨b, 0, none⟩), .string s] wr fun ev w' => ev = .returned (.tuple #[]) ∧ WPost base b v (wl l e 0 (nums s)) e w w' := by
  obtain ⟨v1, h1, h2, h3⟩ := h
  exact (raw_any wr base b v1 l e h1 (Nat.le_trans hb h2.size) s hsz).mono (by rintro ev w' ⟨rfl, hp⟩; exact ⟨rfl, WPost.trans h2 h3 hp⟩)
theorem numK {w wr : World} {base b : Nat} {v : Value} {l : List Int} {e : Int} (h : WPost base b v l e w wr) (hb : base ≤ w.heap.size) (bytes : Int) (L : List Int) (cur : Array Value) (hc : cur = (L.map (Value.int .i64)).toArray) (hsz : l.length + 8 * L.length ≤ 140737488355328) (m : Nat) (hm : m = L.length) :
    Calls Tryz.prog 52 #[.pointer (some ⟨b, 0, none⟩), .int .i64 bytes, .slice (some ⟨wr.heap.size, 0, none⟩) m m] (wr.alloc (Obj.cells cur 3)) fun ev w' => ev = .returned (.tuple #[]) ∧ WPost base b v (wl l e (errN bytes L) (outN bytes.toNat L)) (we e (errN bytes L)) w w' := by
  subst hc hm
  obtain ⟨v1, h1, h2, h3⟩ := h
  have hA := (Only.refl (fun _ => False) wr).alloc (Obj.cells (L.map (Value.int .i64)).toArray 3)
  have hB := Blk.new wr 3 (L.map (Value.int .i64)).toArray
  refine (num_any (wr.alloc (Obj.cells (L.map (Value.int .i64)).toArray 3)) base b v1 l e (h1.only hA (fun _ _ q => q)) (by have := h2.size; simp; omega) bytes L (some ⟨wr.heap.size, 0, none⟩) L.length (.inr ⟨wr.heap.size, 0, rfl, by simp, ?_, fun j hj => ?_⟩) hsz).mono ?_
  · rintro (hq | hq)
    · have := h1.lt; omega
    · have := (h1.2.1.lt _ hq).2; omega
  · rw [Nat.zero_add, hB.cell j]
    simp [hj]
  · rintro ev w' ⟨rfl, hp⟩
    exact ⟨rfl, WPost.trans (h2.alloc _) h3 hp⟩
theorem doneK {w wr : World} {base b : Nat} {v : Value} {l : List Int} {e : Int} (h : WPost base b v l e w wr) :
    Calls Tryz.prog 54 #[.pointer (some ⟨b, 0, none⟩)] wr fun ev w' => ev = .returned (.tuple #[.string (strOfNums l), .int .i64 e]) ∧ WPost base b v l e w w' := by
  have h' := h
  obtain ⟨v1, h1, h2, h3⟩ := h
  exact (done_any wr base b v1 l e h1).mono (by rintro ev w' ⟨rfl, hb⟩; exact ⟨rfl, h'.below hb⟩)
theorem wl_good (l out : List Int) : wl l 0 0 out = l ++ out := by simp [wl]
theorem we_good : we 0 0 = 0 := rfl
end Go.Proofs.YtnfdedolgfcmfaaGreatDoor

namespace Go.Proofs.YtnfdedolgfcmfaaGreatDoor
open Go.RowKit
set_option maxRecDepth 100000
/-- has a text the right check at its end? -/
def okR (s : ByteArray) : Bool := decide (s.extract (s.size - 4) s.size = ckR (s.extract 0 (s.size - 4)))
set_option maxHeartbeats 1000000 in
theorem yisChecked_any (s : ByteArray) (h4 : 4 ≤ s.size) (hs : s.size ≤ 140737488355000) (w : World) : Calls Tryz.prog 79 #[.string s] w fun e w' => e = .returned (.bool (okR s)) ∧ Below w.heap.size w w' := by
  obtain ⟨n, hn⟩ : ∃ n, s.size - 4 = n := ⟨_, rfl⟩
  have hsz : s.size = n + 4 := by omega
  have HCK := hide (fun W => ycheckOf_any (s.extract 0 n) (by rw [ByteArray.size_extract]; omega) W)
  obtain ⟨Z, hZ⟩ : ∃ z, okR s = z := ⟨_, rfl⟩
  rw [hZ]
  rw [okR, hn, hsz] at hZ
  obtain ⟨t1, ht1⟩ : ∃ z, s.extract n (n + 4) = z := ⟨_, rfl⟩
  obtain ⟨t2, ht2⟩ : ∃ z, s.extract 0 n = z := ⟨_, rfl⟩
  rw [ht1, ht2] at hZ
  rw [ht2] at HCK
  obtain ⟨ck, hck⟩ : ∃ z, ckR t2 = z := ⟨_, rfl⟩
  rw [hck] at hZ HCK
  have hq : (t1.toList == ck.toList) = Z := by
    rw [← hZ]
    by_cases q : t1 = ck
    · rw [decide_eq_true q, q]; exact beq_self_eq_true _
    · rw [decide_eq_false q]; exact str_ne q
  have e3 : wrap64 ((s.size : Int) - 4) = (n : Int) := by rw [wrap64_eq _ (by omega) (by omega)]; omega
  have i1 : (n : Int) ≤ (s.size : Int) := by omega
  have ht1' : s.extract n s.size = t1 := by rw [hsz]; exact ht1
  have HB := hide (show Below w.heap.size w w.drew from (Below.refl _ _).drew)
  have i2 : (n : Int) ≤ (n : Int) + 4 := by omega
  clear hZ hck hn h4
  go_enter Tryz.func79, Tryz.ntmps79
  go_wp2_with fail
  refine wp_region_held_drew (S := fun W => Below w.heap.size w W) (by kernel_rfl) (unhide HB) ?_
  intro hS
  refine wpAnyH_takeD 0 (some 7) (.string s) rfl rfl (by kernel_rfl) (by kernel_rfl) (by kernel_rfl) (fun _ _ _ h => h) (Or.inl ⟨by rfl, fun w hSw => by clear hSw; go_simp; try omega⟩) hS ?_
  simp only [Act.put, List.setIfInBounds_toArray, List.set_cons_zero, List.set_cons_succ]
  refine wpAnyH_takeD 1 (some 8) (.int .i64 (n : Int)) rfl rfl (by kernel_rfl) (by kernel_rfl) (by kernel_rfl) (fun _ _ _ h => h) (Or.inl ⟨by rfl, fun w hSw => by clear hSw; go_simp; try omega⟩) hS ?_
  simp only [Act.put, List.setIfInBounds_toArray, List.set_cons_zero, List.set_cons_succ]
  refine wpAnyH_takeD 2 (some 9) (.string t1) rfl rfl (by kernel_rfl) (by kernel_rfl) (by kernel_rfl) (fun _ _ _ h => h) (Or.inl ⟨by rfl, fun w hSw => by clear hSw; go_simp; try omega⟩) hS ?_
  simp only [Act.put, List.setIfInBounds_toArray, List.set_cons_zero, List.set_cons_succ]
  refine wpAnyH_takeD 3 (some 10) (.string s) rfl rfl (by kernel_rfl) (by kernel_rfl) (by kernel_rfl) (fun _ _ _ h => h) (Or.inl ⟨by rfl, fun w hSw => by clear hSw; go_simp; try omega⟩) hS ?_
  simp only [Act.put, List.setIfInBounds_toArray, List.set_cons_zero, List.set_cons_succ]
  refine wpAnyH_takeD 4 (some 11) (.int .i64 (n : Int)) rfl rfl (by kernel_rfl) (by kernel_rfl) (by kernel_rfl) (fun _ _ _ h => h) (Or.inl ⟨by rfl, fun w hSw => by clear hSw; go_simp; try omega⟩) hS ?_
  simp only [Act.put, List.setIfInBounds_toArray, List.set_cons_zero, List.set_cons_succ]
  refine wpAnyH_takeD 5 (some 12) (.string t2) rfl rfl (by kernel_rfl) (by kernel_rfl) (by kernel_rfl) (fun _ _ _ h => h) (Or.inl ⟨by rfl, fun w hSw => by clear hSw; go_simp; try omega⟩) hS ?_
  simp only [Act.put, List.setIfInBounds_toArray, List.set_cons_zero, List.set_cons_succ]
  refine wpAnyH_ready (rs := [6]) (by kernel_rfl) (by simp) ?_
  refine AllReadyH.cons rfl (fun K hK => ?_) AllReadyH.nil
  simp only [List.getElem_toArray, List.getElem_cons_succ, List.getElem_cons_zero]
  go_simp
  refine (unhide HCK _).mono ?_
  rintro e y ⟨rfl, hb⟩
  have hS9 : Below w.heap.size w y := hS.trans (hb.mono hS.size)
  clear hb
  refine hK.out _ _ hS9 (fun hS => ?_)
  clear hK K
  refine wpAnyH_takeD 7 (some 14) (.bool Z) rfl rfl (by kernel_rfl) (by kernel_rfl) (by kernel_rfl) (fun _ _ _ h => h) (Or.inl ⟨by rfl, fun w hSw => by clear hSw; go_simp; try omega⟩) hS ?_
  simp only [Act.put, List.setIfInBounds_toArray, List.set_cons_zero, List.set_cons_succ]
  refine wpAnyH_takeD 8 (some 2) (.bool Z) rfl rfl (by kernel_rfl) (by kernel_rfl) (by kernel_rfl) (fun _ _ _ h => h) (Or.inl ⟨by rfl, fun w hSw => by clear hSw; go_simp; try omega⟩) hS ?_
  simp only [Act.put, List.setIfInBounds_toArray, List.set_cons_zero, List.set_cons_succ]
  refine wpAnyH_done (by kernel_rfl) ?_ _
  clear HB
  go_wp2
  go_ret
  exact ⟨rfl, hS⟩
end Go.Proofs.YtnfdedolgfcmfaaGreatDoor

namespace Go.Proofs.YtnfdedolgfcmfaaGreatDoor
open Go.RowKit
set_option maxRecDepth 100000
/-- a text with its check behind it -/
def cdR (s : ByteArray) : ByteArray := s ++ ckR s
theorem cdR_size (s : ByteArray) : (cdR s).size = s.size + 4 := by rw [cdR, ByteArray.size_append, ckR_size]
set_option maxHeartbeats 1000000 in
theorem ychecked_any {w wr : World} {base b : Nat} {v : Value} {l : List Int} (h : WPost base b v l 0 w wr) (hsz : l.length ≤ 140737488355000) : Calls Tryz.prog 78 #[.pointer (some ⟨b, 0, none⟩)] wr fun ev w' => ev = .returned (.string (cdR (strOfNums l))) ∧ WPost base b v l 0 w w' := by
  have HD := hide (doneK h)
  have hS : (strOfNums l).size ≤ 140737488355000 := by rw [strOfNums_size]; exact hsz
  obtain ⟨S, hSe⟩ : ∃ z, strOfNums l = z := ⟨_, rfl⟩
  rw [hSe] at HD hS ⊢
  have HCK := hide (fun W => ycheckOf_any S (by omega) W)
  obtain ⟨T, hT⟩ : ∃ z, ckR S = z := ⟨_, rfl⟩
  have hTs : T.size = 4 := by rw [← hT]; exact ckR_size S
  have hadd : ¬ 9223372036854775807 < S.size + T.size := by omega
  rw [cdR, hT]
  rw [hT] at HCK
  clear hSe hT hS hsz h hTs
  go_enter Tryz.func78, Tryz.ntmps78
  go_wp2_with fail
  refine (unhide HD).mono ?_
  rintro e y ⟨rfl, hp⟩
  have HP := hide hp
  clear hp HD
  go_wp2_with fail
  refine (unhide HCK _).mono ?_
  rintro e y2 ⟨rfl, hb⟩
  have HQ := hide ((unhide HP).below hb)
  clear hb HP HCK
  go_wp2
  go_ret
  exact ⟨rfl, unhide HQ⟩
/-- a word's bytes ahead of its check -/
def wdL (k n : Nat) (r : ByteArray) : List Int := [82, 87] ++ numB (k : Int) 1 ++ numB (n : Int) 4 ++ nums r
def wdB (k n : Nat) (r : ByteArray) : ByteArray := cdR (strOfNums (wdL k n r))
theorem wdL_len (k n : Nat) (r : ByteArray) : (wdL k n r).length = 7 + r.size := by simp [wdL, numB_len, nums_len]; omega
theorem errN_fit (b : Nat) (n : Nat) (h1 : 1 ≤ b) (h8 : b ≤ 8) (hn : (n : Int) < 2 ^ (8 * b)) : errN (b : Int) [(n : Int)] = 0 := by
  rw [errN, if_neg (by omega), if_pos]
  intro m hm
  rw [List.mem_singleton.1 hm]
  exact ⟨by omega, Int.ediv_eq_zero_of_lt (by omega) (by simpa using hn)⟩
theorem outN_one (b : Nat) (n : Int) : outN ((b : Int)).toNat [n] = numB n b := by simp [outN]
set_option maxHeartbeats 2000000 in
theorem ywordText_any (k n : Nat) (r : ByteArray) (hk : k < 256) (hn : n < 4294967296) (hr : r.size ≤ 1000) (w : World) : Calls Tryz.prog 41 #[.agg #[.int .i64 (k : Int), .int .i64 (n : Int), .string r]] w fun e w' => e = .returned (.string (wdB k n r)) ∧ Below w.heap.size w w' := by
  obtain ⟨h, hh⟩ : ∃ h, w.heap.size = h := ⟨_, rfl⟩
  have HNW := hide (fun W => newWriter_any W)
  have e1 := errN_fit 1 k (by omega) (by omega) (by omega)
  have e4 := errN_fit 4 n (by omega) (by omega) (by omega)
  have o1 := outN_one 1 (k : Int)
  have o4 := outN_one 4 (n : Int)
  have hB0 := Blk.new w 103 #[.int .i64 (k : Int), .int .i64 (n : Int), .string r]
  have HB0 := hide (show Below h w (w.alloc (Obj.cells #[.int .i64 (k : Int), .int .i64 (n : Int), .string r] 103)) from by rw [← hh]; exact (Below.refl _ _).alloc (Nat.le_refl _) _)
  rw [hh] at hB0
  have HB1 := hide hB0
  have HSZ := hide hh
  clear hB0
  rw [hh]
  obtain ⟨Z, hZ⟩ : ∃ z, wdB k n r = z := ⟨_, rfl⟩
  rw [hZ]
  have HZ := hide hZ
  clear hZ
  go_enter Tryz.func41, Tryz.ntmps41
  go_wp2_with fail
  refine (unhide HNW _).mono ?_
  rintro e y1 ⟨rfl, hw1, hb1, hs1⟩
  obtain ⟨g, hg⟩ : ∃ g, (w.alloc (Obj.cells #[Value.int IntKind.i64 (k : Int), Value.int IntKind.i64 (n : Int), Value.string r] 103)).heap.size = g := ⟨_, rfl⟩
  have hgh : g = h + 1 := by rw [← hg]; simp [unhide HSZ]
  rw [hg] at hw1 hb1 hs1 ⊢
  have HW := hide (show WPost g g (.slice none 0 0) [] 0 y1 y1 from ⟨_, hw1, Only.refl _ _, fun k hk => .inl hk⟩)
  have HBK := hide ((unhide HB1).below hb1 (by omega))
  have HBB := hide ((unhide HB0).trans (hb1.mono (by omega)))
  have HG := hide hgh
  have HS1 := hide hs1
  have c0 : y1.cell? ⟨h, 0, none⟩ = some (.int .i64 (k : Int)) := by rw [(unhide HBK).cell 0]; rfl
  have HR := hide (rawK (unhide HW) (by omega) ⟨#[82, 87]⟩ (by decide))
  rw [wl_good, List.nil_append, show nums ⟨#[82, 87]⟩ = [82, 87] from by decide] at HR
  clear hw1 hb1 hs1 hg hgh HNW HB0 HB1 HW c0
  go_wp2_with fail
  refine (unhide HR).mono ?_
  rintro e y2 ⟨rfl, hp⟩
  have HNF := hide (show ¬ Fp g (.slice none 0 0) h from by
    have := unhide HG
    rintro (q | q)
    · omega
    · simp [Value.ownBlock] at q)
  have hbk := hp.blk (unhide HBK) (unhide HNF)
  have c0 : y2.cell? ⟨h, 0, none⟩ = some (.int .i64 (k : Int)) := by rw [hbk.cell 0]; rfl
  have HN := hide (numK hp (by have := unhide HS1; omega) 1 [(k : Int)] _ rfl (by simp) 1 rfl)
  have e1' : errN (1 : Int) [(k : Int)] = 0 := e1
  have o1' : outN (1 : Int).toNat [(k : Int)] = numB (k : Int) 1 := o1
  rw [e1', o1', wl_good, we_good] at HN
  clear HR hp hbk e1 o1 e1' o1'
  go_wp2_with fail
  refine (unhide HN).mono ?_
  rintro e y3 ⟨rfl, hp⟩
  have hbk := hp.blk (unhide HBK) (unhide HNF)
  have c1 : y3.cell? ⟨h, 1, none⟩ = some (.int .i64 (n : Int)) := by rw [hbk.cell 1]; rfl
  have HN2 := hide (numK hp (by have := unhide HS1; omega) 4 [(n : Int)] _ rfl (by simp [numB_len]) 1 rfl)
  have e4' : errN (4 : Int) [(n : Int)] = 0 := e4
  have o4' : outN (4 : Int).toNat [(n : Int)] = numB (n : Int) 4 := o4
  rw [e4', o4', wl_good, we_good] at HN2
  clear HN hp hbk e4 o4 e4' o4' c0
  go_wp2_with fail
  refine (unhide HN2).mono ?_
  rintro e y4 ⟨rfl, hp⟩
  have hbk := hp.blk (unhide HBK) (unhide HNF)
  have c2 : y4.cell? ⟨h, 2, none⟩ = some (.string r) := by rw [hbk.cell 2]; rfl
  have HR := hide (rawK hp (by have := unhide HS1; omega) r (by simp [numB_len]; omega))
  rw [wl_good] at HR
  clear HN2 hp hbk c1
  go_wp2_with fail
  refine (unhide HR).mono ?_
  rintro e y5 ⟨rfl, hp⟩
  have HC := hide (ychecked_any hp (by rw [show [82, 87] ++ numB (k : Int) 1 ++ numB (n : Int) 4 ++ nums r = wdL k n r from rfl, wdL_len]; omega))
  rw [show cdR (strOfNums ([82, 87] ++ numB (k : Int) 1 ++ numB (n : Int) 4 ++ nums r)) = wdB k n r from rfl] at HC
  rw [unhide HZ] at HC
  clear HR hp c2 HBK HNF
  go_wp2_with fail
  refine (unhide HC).mono ?_
  rintro e y6 ⟨rfl, hp⟩
  have HE := hide (show Below h w y6 from by
    obtain ⟨v1, _, h2, _⟩ := hp
    refine (unhide HBB).trans (h2.below (by have := unhide HS1; have := unhide HG; omega) (fun k hk hq => ?_))
    have := unhide HG
    rcases hq with rfl | hq
    · omega
    · simp [Value.ownBlock] at hq)
  clear hp HC HBB
  go_wp2
  go_ret
  exact ⟨rfl, unhide HE⟩
end Go.Proofs.YtnfdedolgfcmfaaGreatDoor

namespace Go.Proofs.YtnfdedolgfcmfaaGreatDoor
open Go.RowKit
set_option maxRecDepth 100000
/-- at block b lies an image that is kept: its sectors, and its root, if somebody has asked for it -/
def Sd (w : World) (b : Nat) (l : List ByteArray) : Prop := ∃ (g : Nat) (kn : ByteArray), Blk w b #[.slice (some ⟨g, 0, none⟩) l.length l.length, .string kn] 90 ∧ Blk w g (l.map Value.string).toArray 9 ∧ (kn = ⟨#[]⟩ ∨ kn = rt l)
theorem Blk.tyne {w : World} {b g : Nat} {c d : Array Value} {S T : TypeId} (h : Blk w b c S) (k : Blk w g d T) (n : S ≠ T) : b ≠ g := by
  intro e
  subst e
  have := h.symm.trans k
  injection this with q
  injection q with _ q2
  exact n q2
theorem Blk.sb {w : World} {g : Nat} {l : List ByteArray} {T : TypeId} (h : Blk w g (l.map Value.string).toArray T) : SB w w.heap.size (some ⟨g, 0, none⟩) l := fun j hj => by
  refine ⟨g, 0, rfl, h.lt, ?_⟩
  rw [Nat.zero_add, h.cell j]
  simp [hj]
theorem Sd.below {w w' : World} {b : Nat} {l : List ByteArray} (h : Sd w b l) (hb : Below w.heap.size w w') : Sd w' b l := by
  obtain ⟨g, kn, h1, h2, h3⟩ := h
  exact ⟨g, kn, h1.below hb h1.lt, h2.below hb h2.lt, h3⟩
theorem Sd.lt {w : World} {b : Nat} {l : List ByteArray} (h : Sd w b l) : b < w.heap.size := by
  obtain ⟨_, _, h1, _, _⟩ := h
  exact h1.lt
/-- an image that is kept stays as it is, whatever becomes of blocks that are neither it nor a row of texts -/
theorem Sd.only {w w' : World} {b : Nat} {l : List ByteArray} {P : Nat → Prop} (h : Sd w b l) (ho : Only P w w') (hb : ¬ P b) (hP : ∀ k c, P k → ¬ Blk w k c 9) : Sd w' b l := by
  obtain ⟨g, kn, h1, h2, h3⟩ := h
  exact ⟨g, kn, h1.only ho hb, h2.only ho (fun q => hP _ _ q h2), h3⟩
set_option maxHeartbeats 2000000 in
theorem yroot_any (w : World) (b : Nat) (l : List ByteArray) (h : Sd w b l) (hK : KTab w) (hT : Sht l) (hm : l.length ≤ 65536) : Calls Tryz.prog 44 #[.pointer (some ⟨b, 0, none⟩)] w fun e w' => e = .returned (.string (rt l)) ∧ Sd w' b l ∧ Only (fun k => k = b) w w' := by
  obtain ⟨g, kn, h1, h2, h3⟩ := h
  have hgb : g ≠ b := h2.tyne h1 (by decide)
  have hr : (rt l).size = 32 := rt_size l
  obtain ⟨R, hR⟩ : ∃ z, rt l = z := ⟨_, rfl⟩
  have c1 : w.cell? ⟨b, 1, none⟩ = some (.string kn) := by rw [h1.cell 1]; rfl
  have c0 : w.cell? ⟨b, 0, none⟩ = some (.slice (some ⟨g, 0, none⟩) l.length l.length) := by rw [h1.cell 0]; rfl
  have HC := hide (root_any l l.length rfl w w.heap.size l.length (some ⟨g, 0, none⟩) h2.sb (Nat.le_refl _) hK hT hm (Nat.le_refl _) (by omega))
  rw [hR] at hr h3 HC ⊢
  by_cases hk : kn = ⟨#[]⟩
  · subst hk
    have HX := hide (show ∀ y, Below w.heap.size w y → Sd (y.setCell ⟨b, 1, none⟩ (.string R)) b l ∧ Only (fun k => k = b) w (y.setCell ⟨b, 1, none⟩ (.string R)) ∧ (y.setCell ⟨b, 1, none⟩ (.string R)).cell? ⟨b, 1, none⟩ = some (.string R) from fun y hy => by
      have q1 := (h1.below hy h1.lt).set 1 (.string R)
      have q2 := (h2.below hy h2.lt).other ⟨b, 1, none⟩ (.string R) (fun q => hgb q.symm)
      refine ⟨⟨g, R, q1, q2, .inr hR.symm⟩, ?_, ?_⟩
      · exact Only.setCell (Only.of_below hy) _ _ (fun _ => rfl)
      · rw [q1.cell 1]; rfl)
    have HF := hide (show ∀ y, Below w.heap.size w y → y.frozen? ⟨b, 1, none⟩ = false ∧ y.cell? ⟨b, 1, none⟩ = some (.string ⟨#[]⟩) from fun y hy => ⟨(h1.below hy h1.lt).frozen 1, by rw [(h1.below hy h1.lt).cell 1]; rfl⟩)
    clear h1 h2 h3 hr hR hK hT hm hgb
    go_enter Tryz.func44, Tryz.ntmps44
    go_wp2_with fail
    refine (unhide HC).mono ?_
    rintro e y ⟨rfl, hb⟩
    obtain ⟨hf, hc⟩ := unhide HF y hb
    have hX := unhide HX y hb
    obtain ⟨x, hx⟩ : ∃ z, y.setCell ⟨b, 1, none⟩ (.string R) = z := ⟨_, rfl⟩
    rw [hx] at hX
    have c9 := hX.2.2
    have HY := hide hX
    clear HC HF HX hX c0 c1 hb
    go_wp2
    go_ret
    exact ⟨rfl, (unhide HY).1, (unhide HY).2.1⟩
  · have hk2 : kn = R := h3.resolve_left hk
    subst hk2
    have hne : (kn.toList == []) = false := by
      have q := str_ne (s := kn) (t := ⟨#[]⟩) hk
      rwa [show (⟨#[]⟩ : ByteArray).toList = [] from by first | rfl | simp | decide] at q
    have HS := hide (show Sd w b l from ⟨g, kn, h1, h2, .inr hR.symm⟩)
    clear h1 h2 h3 hr hR hK hT hm hgb HC c0
    go_enter Tryz.func44, Tryz.ntmps44
    go_wp2
    go_ret
    exact ⟨rfl, unhide HS, Only.refl _ _⟩
end Go.Proofs.YtnfdedolgfcmfaaGreatDoor
