import Derived.Test.YtclgkgaobjcifaaGreatDoorMy00
import Derived.BigQuiet
import Derived.WalkKit
import Derived.Handy
namespace Go.Proofs.YtclgkgaobjcifaaGreatDoor
open Go.RowKit
theorem refuseP {w wr : World} {base b : Nat} {v : Value} {l : List Int} {e : Int} (h : WPost base b v l e w wr) (x : Int) :
    Calls Tryz.prog 58 #[.pointer (some ⟨b, 0, none⟩), .int .i64 x] wr fun ev w' => ev = .returned (.tuple #[]) ∧ WPost base b v (if e = 0 then [] else l) (if e = 0 then x else e) w w' := by
  obtain ⟨v1, h1, h2, h3⟩ := h
  exact (refuse_any wr base b v1 l e h1 x).mono (by rintro ev w' ⟨rfl, hp⟩; exact ⟨rfl, WPost.trans h2 h3 hp⟩)
set_option maxRecDepth 100000 in
set_option maxHeartbeats 2000000 in
theorem num_any (w : World) (base b : Nat) (v : Value) (l : List Int) (e : Int) (h : Wtr w base b v l e) (hb : base ≤ w.heap.size) (bytes : Int) (L : List Int) (p : Option Addr) (cap : Nat)
    (hp : L = [] ∨ ∃ lb lo, p = some ⟨lb, lo, none⟩ ∧ lb < w.heap.size ∧ ¬ Fp b v lb ∧ ∀ j, j < L.length → w.cell? ⟨lb, lo + j, none⟩ = some (.int .i64 (L.getD j 0)))
    (hsz : l.length + 8 * L.length ≤ 140737488355328) :
    Calls Tryz.prog 29 #[.pointer (some ⟨b, 0, none⟩), .int .i64 bytes, .slice p L.length cap] w fun ev w' => ev = .returned (.tuple #[]) ∧ WPost base b v (wl l e (errN bytes L) (outN bytes.toNat L)) (we e (errN bytes L)) w w' := by
  by_cases hw : 1 ≤ bytes ∧ bytes ≤ 8
  · obtain ⟨k, rfl⟩ := Int.eq_ofNat_of_zero_le (show 0 ≤ bytes by omega)
    have HW := hide (fun W => isWidth_any (k : Int) W)
    rw [decide_eq_true hw] at HW
    obtain ⟨hk1, hk8⟩ := hw
    have hE : errN (k : Int) L = if ∀ n ∈ L, fitsP n k then 0 else 30 := by rw [errN, if_neg (by omega), Int.toNat_natCast]
    rw [Int.toNat_natCast]
    have HS := hide (show WPost base b v (wl l e 0 (outN k (L.take 0))) e w w by
      rw [List.take_zero, show outN k [] = [] from rfl, wl_nil]
      exact WPost.refl h)
    have HE := hide hE
    clear hE h
    have hk1' : 1 ≤ k := by omega
    have hk8' : k ≤ 8 := by omega
    clear hk1 hk8
    have HPT := hide hp
    clear hp
    generalize errN (k : Int) L = E at *
    go_enter Tryz.func29, Tryz.ntmps29
    go_wp2_with (go_at_call 57; refine (unhide HW _).mono ?_; rintro ev w' ⟨rfl, rfl⟩)
    go_loopw [16] (fun u wr => ∃ i : Nat, i ≤ L.length ∧ u = .int .i64 (i : Int) ∧ (∀ n ∈ L.take i, fitsP n k) ∧ WPost base b v (wl l e 0 (outN k (L.take i))) e w' wr) (fun u _ => L.length - (intOf u).toNat)
    case atStart => exact ⟨0, by omega, rfl, fun n hn => by simp at hn, unhide HS⟩
    case round =>
      obtain ⟨i, hi, rfl, hall, hP⟩ := hrel
      have HP := hide hP
      have HA := hide hall
      clear hP hall HS HW
      obtain ⟨wo, rfl⟩ : ∃ wo, wo = wr := ⟨_, rfl⟩
      by_cases hiL : i < L.length
      · have hlen : (wl l e 0 (outN k (L.take i))).length + k ≤ 140737488355328 := by
          have h1 := wl_len l e (outN k (L.take i))
          rw [outN_len, List.length_take, Nat.min_eq_left (by omega)] at h1
          have h2 : k * i + k ≤ 8 * L.length := by
            have : k * (i + 1) ≤ 8 * L.length := Nat.mul_le_mul hk8' hiL
            rw [Nat.mul_succ] at this
            exact this
          omega
        obtain ⟨lb, lo, rfl, hlb, hfp, hc⟩ : ∃ lb lo, p = some ⟨lb, lo, none⟩ ∧ lb < w'.heap.size ∧ ¬ Fp b v lb ∧ ∀ j, j < L.length → w'.cell? ⟨lb, lo + j, none⟩ = some (.int .i64 (L.getD j 0)) := by
          rcases unhide HPT with h | h
          · subst h; simp at hiL
          · exact h
        have c1 : wo.cell? ⟨lb, lo + i, none⟩ = some (.int .i64 (L.getD i 0)) := by
          obtain ⟨v1, _, h2, _⟩ := unhide HP
          rw [World.cell?_of_block (w := w') (a := ⟨lb, lo + i, none⟩) (h2.2 lb hlb hfp)]
          exact hc i hiL
        have HN := hide (outN_snoc k L i hiL)
        have hmem : L.getD i 0 ∈ L := by
          rw [List.getD_eq_getElem?_getD, List.getElem?_eq_getElem hiL]
          exact List.getElem_mem _
        have HM := hide hmem
        have HT : Hid (L.take (i + 1) = L.take i ++ [L.getD i 0]) := hide (by rw [List.take_add_one, List.getElem?_eq_getElem hiL, List.getD_eq_getElem?_getD, List.getElem?_eq_getElem hiL]; rfl)
        clear hc hmem
        generalize L.getD i 0 = n at *
        have HF := hide (fun W => fits_any n k hk8' W)
        by_cases hf : fitsP n k
        · rw [decide_eq_true hf] at HF
          go_wp2_with (go_at_call 59; refine (unhide HF _).mono ?_; rintro ev w1 ⟨rfl, rfl⟩)
          clear c1 HF
          go_loopw [8] (fun u wr => ∃ q j : Nat, q + j = k ∧ u = .int .i64 ((q : Int) - 1) ∧ WPost base b v (wl l e 0 (outN k (L.take i) ++ (numB n k).take j)) e w' wr) (fun u _ => ((intOf u) + 1).toNat)
          case atStart => exact ⟨k, 0, by omega, rfl, by rw [List.take_zero, List.append_nil]; exact unhide HP⟩
          case round =>
            obtain ⟨q, j, hqj, rfl, hP2⟩ := hrel
            have HP2 := hide hP2
            clear hP2 HP
            cases q with
            | zero =>
              have hj : j = k := by omega
              subst hj
              go_wp2
              go_roundw
              case rel => exact ⟨i + 1, by omega, by go_num, fun x hx => by
                rw [unhide HT] at hx
                rcases List.mem_append.1 hx with h | h
                · exact unhide HA x h
                · rw [List.mem_singleton.1 h]; exact hf, by rw [unhide HN, ← numB_all n j]; exact unhide HP2⟩
              case measure => simp [intOf]; omega
            | succ q =>
              have hq1 : ((q + 1 : Nat) : Int) - 1 = (q : Int) := by omega
              rw [hq1]
              have ht : (8 * (q : Int)).toNat = 8 * q := by omega
              have h64 : 8 * (q : Int) ≤ 64 := by omega
              have hl2 : (wl l e 0 (outN k (L.take i) ++ (numB n k).take j)).length + 1 ≤ 140737488355328 := by
                have h1 := wl_len (wl l e 0 (outN k (L.take i))) e ((numB n k).take j)
                rw [wl_two] at h1
                have h2 : ((numB n k).take j).length ≤ j := by simp; omega
                omega
              have HX := hide (numB_take n k j (by omega))
              rw [show k - 1 - j = q by omega] at HX
              have hq8 : q ≤ 8 := by omega
              clear hq1
              go_wp2_with (go_at_call 60; refine (lay1 (unhide HP2) (by assumption) _ _ hl2).mono ?_; rintro ev w2 ⟨rfl, hP3⟩; have HP3 := hide hP3; clear hP3)
              go_roundw
              case rel => exact ⟨q, j + 1, by omega, by go_num, by rw [unhide HX, ← List.append_assoc, ← wl_two]; exact unhide HP3⟩
              case measure => simp [intOf]
        · rw [decide_eq_false hf] at HF
          have hEE : E = 30 := by rw [unhide HE, if_neg (fun q => hf (q n (unhide HM)))]
          go_wp2_with (first | (go_at_call 59; refine (unhide HF _).mono ?_; rintro ev w1 ⟨rfl, rfl⟩) | (go_at_call 58; refine (refuseP (unhide HP) 30).mono ?_; rintro ev w2 ⟨rfl, hP3⟩; have HP3 := hide hP3; clear hP3))
          (try simp only [Exit.inBlock, Exit.then])
          refine bodyPost_ret (results_none rfl _ _ _) rfl ⟨rfl, ?_⟩
          rw [← wl_bad l e E (outN k (L.take i)) _ (by omega), we, hEE]
          exact unhide HP3
      · have hEE : E = 0 := by
          rw [unhide HE, if_pos (fun n hn => unhide HA n (by rw [List.take_of_length_le (by omega)]; exact hn))]
        have HPE : Hid (WPost base b v (wl l e E (outN k L)) (we e E) w' wo) := hide (by
          have := unhide HP
          rw [List.take_of_length_le (by omega)] at this
          rw [hEE, we_ok]
          exact this)
        clear hEE
        go_wp2
        go_end0
        exact ⟨rfl, unhide HPE⟩
  · have HW := hide (fun W => isWidth_any bytes W)
    rw [decide_eq_false hw] at HW
    have hE : errN bytes L = 1 := by rw [errN, if_pos (by omega)]
    rw [hE]
    have HR := hide (refuse_any w base b v l e h 1)
    have e1 : (if e = 0 then [] else l) = wl l e 1 (outN bytes.toNat L) := by simp [wl]
    have e2 : (if e = 0 then (1 : Int) else e) = we e 1 := rfl
    rw [e1, e2] at HR
    generalize wl l e 1 (outN bytes.toNat L) = X at *
    generalize we e 1 = Y at *
    clear h hp hE e1 e2
    go_enter Tryz.func29, Tryz.ntmps29
    go_wp2_with (first | (go_at_call 57; refine (unhide HW _).mono ?_; rintro ev w1 ⟨rfl, rfl⟩) | (go_at_call 58; refine (unhide HR).mono ?_; rintro ev w2 ⟨rfl, hP3⟩; have HP3 := hide hP3; clear hP3))
    (try simp only [Exit.inBlock, Exit.then])
    exact bodyPost_ret (results_none rfl _ _ _) rfl ⟨rfl, unhide HP3⟩
theorem there_bsl {w : World} {base b cap : Nat} {L : List Int} (h : Bsl w base b cap L) : ∀ j, j < L.length → w.cell? ((⟨b, 0, none⟩ : Addr).add j) = some (.int .u8 (L.getD j 0)) := by
  intro j hj
  rw [Addr.add_mid]
  exact h.2.2.2.2.1.get j hj
set_option maxRecDepth 100000 in
set_option maxHeartbeats 1000000 in
theorem raw_any (w : World) (base b : Nat) (v : Value) (l : List Int) (e : Int) (h : Wtr w base b v l e) (hb : base ≤ w.heap.size) (s : ByteArray) (hsz : l.length + s.size ≤ 140737488355328) :
    Calls Tryz.prog 64 #[.pointer (some ⟨b, 0, none⟩), .string s] w fun ev w' => ev = .returned (.tuple #[]) ∧ WPost base b v (wl l e 0 (nums s)) e w w' := by
  obtain ⟨cap, W, hrun, hB, hbel⟩ := Bsl.of_string w s (by omega)
  have hO : Only (fun _ => False) w W := Only.of_below hbel
  have HL := hide (lay_any W base b v l e (h.only hO (fun _ _ q => q)) (Nat.le_trans hb hbel.size) ⟨w.heap.size, 0, none⟩ s.size cap (nums s) (nums_len s) (fun j hj => there_bsl hB j (by rw [nums_len]; exact hj)) hsz)
  rw [← wl_ok] at HL
  have HO := hide hO
  clear h hB hbel hO
  generalize wl l e 0 (nums s) = X at *
  go_enter Tryz.func64, Tryz.ntmps64
  go_wp2_with (go_at_call 60; refine (unhide HL).mono ?_; rintro ev w2 ⟨rfl, hP3⟩; have HP3 := hide hP3; clear hP3)
  go_end0
  exact ⟨rfl, WPost.trans (v1 := v) ((unhide HO).mono (fun _ _ q => q.elim)) (fun k hk => .inl hk) (unhide HP3)⟩
end Go.Proofs.YtclgkgaobjcifaaGreatDoor

namespace Go.Proofs.YtclgkgaobjcifaaGreatDoor
open Go.RowKit
theorem Arr.of_owns {w : World} {base g cap n : Nat} {l : List Int} (h : w.ownsRow base 5 1 (.slice (some ⟨g, 0, none⟩) n cap) l.length (l.map (Value.int .u8))) : Arr w g 0 .u8 l := by
  intro j hj
  rcases h.2 with ⟨h1, _⟩ | ⟨g', cap', cur, h1, _, hh, hn, _, hs, hx⟩
  · cases h1
  · obtain ⟨rfl, rfl, rfl⟩ : g = g' ∧ n = l.length ∧ cap = cap' := by simpa using h1
    rw [Nat.mul_one] at hs hx
    rw [Nat.zero_add, cell_of_row w g j cur 5 (0, 0) hh]
    refine ⟨?_, by simp [World.frozen?, hh]⟩
    have e : cur.toList[j]? = (l.map (Value.int .u8))[j]? := by rw [← hx, List.getElem?_take, if_pos hj]
    rw [← Array.getElem?_toList, e]
    simp [hj]
set_option maxRecDepth 100000 in
set_option maxHeartbeats 1000000 in
theorem done_any (w : World) (base b : Nat) (v : Value) (l : List Int) (e : Int) (h : Wtr w base b v l e) :
    Calls Tryz.prog 31 #[.pointer (some ⟨b, 0, none⟩)] w fun ev w' => ev = .returned (.tuple #[.string (strOfNums l), .int .i64 e]) ∧ Below w.heap.size w w' := by
  have hcv : ∃ p cap, v = .slice p l.length cap ∧ (convert 61 9 (.slice p l.length cap)).run Tryz.prog w.drew = .ok (.string (strOfNums l)) w.drew := by
    rcases h.2.1.2 with ⟨h1, h2⟩ | ⟨g, cap, cur, h1, _, hh, hn, _, hs, hx⟩
    · obtain rfl : l = [] := List.eq_nil_of_length_eq_zero h2
      exact ⟨none, 0, h1, run_convert_bytes_nil (P := Tryz.prog) w.drew 61 5 Tryz.underlying61 Tryz.underlying5 0 0 9 Tryz.underlying9⟩
    · subst h1
      have hA : Arr w g 0 .u8 l := Arr.of_owns h.2.1
      exact ⟨some ⟨g, 0, none⟩, cap, rfl, run_convert_bytes_arg (P := Tryz.prog) w.drew 61 5 Tryz.underlying61 Tryz.underlying5 g 0 l.length cap l rfl (fun i hi => hA.get i hi) 9 Tryz.underlying9⟩
  obtain ⟨p, cap, rfl, hcv⟩ := hcv
  have c0 : w.cell? ⟨b, 0, none⟩ = some (.slice p l.length cap) := by rw [h.1.cell 0]; rfl
  have c1 : w.cell? ⟨b, 1, none⟩ = some (.int .i64 e) := by rw [h.1.cell 1]; rfl
  clear h
  generalize strOfNums l = S at *
  go_enter Tryz.func31, Tryz.ntmps31
  go_wp2
  go_region
  all_goals (try go_wp2)
  all_goals (go_ret2; exact ⟨rfl, (Below.refl _ _).drew⟩)
end Go.Proofs.YtclgkgaobjcifaaGreatDoor

namespace Go.Proofs.YtclgkgaobjcifaaGreatDoor
open Go.RowKit
theorem WPost.below {w wr w2 : World} {base b : Nat} {v : Value} {l : List Int} {e : Int} (h : WPost base b v l e w wr) (hb : Below wr.heap.size wr w2) : WPost base b v l e w w2 := by
  obtain ⟨v1, h1, h2, h3⟩ := h
  have hO : Only (fun _ => False) wr w2 := Only.of_below hb
  exact ⟨v1, h1.only hO (fun _ _ q => q), h2.trans hO (fun _ _ q => q.elim), h3⟩
theorem WPost.only {w wr w2 : World} {base b : Nat} {v : Value} {l : List Int} {e : Int} {P : Nat → Prop} (h : WPost base b v l e w wr) (hO : Only P wr w2) (hp : ∀ k, P k → k < w.heap.size ∧ ¬ Fp b v k) (hb : b < w.heap.size) : ∃ v', Wtr w2 base b v' l e ∧ (∀ k, v'.ownBlock = some k → v.ownBlock = some k ∨ w.heap.size ≤ k) := by
  obtain ⟨v1, h1, h2, h3⟩ := h
  refine ⟨v1, h1.only hO (fun k hk hpk => ?_), h3⟩
  obtain ⟨q1, q2⟩ := hp k hpk
  rcases hk with rfl | hk
  · exact q2 (.inl rfl)
  · rcases h3 k hk with h | h
    · exact q2 (.inr h)
    · omega
theorem WPost.alloc {w wr : World} {base b : Nat} {v : Value} {l : List Int} {e : Int} (h : WPost base b v l e w wr) (o : Obj) : WPost base b v l e w (wr.alloc o) := h.below ((Below.refl _ _).alloc (Nat.le_refl _) o)
theorem WPost.size {w wr : World} {base b : Nat} {v : Value} {l : List Int} {e : Int} (h : WPost base b v l e w wr) : w.heap.size ≤ wr.heap.size := by obtain ⟨_, _, h2, _⟩ := h; exact h2.size
theorem WPost.blk {w wr : World} {base b : Nat} {v : Value} {l : List Int} {e : Int} (h : WPost base b v l e w wr) {k : Nat} {cur : Array Value} {T : TypeId} (hB : Blk w k cur T) (hk : ¬ Fp b v k) : Blk wr k cur T := by obtain ⟨_, _, h2, _⟩ := h; exact hB.only h2 hk
theorem rawK {w wr : World} {base b : Nat} {v : Value} {l : List Int} {e : Int} (h : WPost base b v l e w wr) (hb : base ≤ w.heap.size) (s : ByteArray) (hsz : l.length + s.size ≤ 140737488355328) :
    Calls Tryz.prog 64 #[.pointer (some ⟨b, 0, none⟩), .string s] wr fun ev w' => ev = .returned (.tuple #[]) ∧ WPost base b v (wl l e 0 (nums s)) e w w' := by
  obtain ⟨v1, h1, h2, h3⟩ := h
  exact (raw_any wr base b v1 l e h1 (Nat.le_trans hb h2.size) s hsz).mono (by rintro ev w' ⟨rfl, hp⟩; exact ⟨rfl, WPost.trans h2 h3 hp⟩)
theorem numK {w wr : World} {base b : Nat} {v : Value} {l : List Int} {e : Int} (h : WPost base b v l e w wr) (hb : base ≤ w.heap.size) (bytes : Int) (L : List Int) (cur : Array Value) (hc : cur = (L.map (Value.int .i64)).toArray) (hsz : l.length + 8 * L.length ≤ 140737488355328) (m : Nat) (hm : m = L.length) :
    Calls Tryz.prog 29 #[.pointer (some ⟨b, 0, none⟩), .int .i64 bytes, .slice (some ⟨wr.heap.size, 0, none⟩) m m] (wr.alloc (Obj.cells cur 3)) fun ev w' => ev = .returned (.tuple #[]) ∧ WPost base b v (wl l e (errN bytes L) (outN bytes.toNat L)) (we e (errN bytes L)) w w' := by
  subst hc hm
  obtain ⟨v1, h1, h2, h3⟩ := h
  have hA := (Only.refl (fun _ => False) wr).alloc (Obj.cells (L.map (Value.int .i64)).toArray 3)
  have hB := Blk.new wr 3 (L.map (Value.int .i64)).toArray
  refine (num_any (wr.alloc (Obj.cells (L.map (Value.int .i64)).toArray 3)) base b v1 l e (h1.only hA (fun _ _ q => q)) (by have := h2.size; simp; omega) bytes L (some ⟨wr.heap.size, 0, none⟩) L.length (.inr ⟨wr.heap.size, 0, rfl, by simp, ?_, fun j hj => ?_⟩) hsz).mono ?_
  · rintro (hq | hq)
    · have := h1.lt; omega
    · have := (h1.2.1.lt _ hq).2; omega
  · rw [Nat.zero_add, hB.cell j]
    simp [hj]
  · rintro ev w' ⟨rfl, hp⟩
    exact ⟨rfl, WPost.trans (h2.alloc _) h3 hp⟩
theorem doneK {w wr : World} {base b : Nat} {v : Value} {l : List Int} {e : Int} (h : WPost base b v l e w wr) :
    Calls Tryz.prog 31 #[.pointer (some ⟨b, 0, none⟩)] wr fun ev w' => ev = .returned (.tuple #[.string (strOfNums l), .int .i64 e]) ∧ WPost base b v l e w w' := by
  have h' := h
  obtain ⟨v1, h1, h2, h3⟩ := h
  exact (done_any wr base b v1 l e h1).mono (by rintro ev w' ⟨rfl, hb⟩; exact ⟨rfl, h'.below hb⟩)
theorem wl_good (l out : List Int) : wl l 0 0 out = l ++ out := by simp [wl]
theorem we_good : we 0 0 = 0 := rfl
end Go.Proofs.YtclgkgaobjcifaaGreatDoor

namespace Go.Proofs.YtclgkgaobjcifaaGreatDoor
open Go.RowKit
/-- One bit of the check. -/
def cstep (v : Nat) : Nat := (v / 2) ^^^ (if v % 2 = 1 then 3988292384 else 0)
def iter (n : Nat) (v : Nat) : Nat := match n with
  | 0 => v
  | n + 1 => iter n (cstep v)
theorem iter_add (n m v : Nat) : iter (n + m) v = iter m (iter n v) := by
  induction n generalizing v with
  | zero => simp [iter]
  | succ n ih => rw [Nat.succ_add, iter, ih, iter]
theorem cstep_lt (v : Nat) (h : v < 4294967296) : cstep v < 4294967296 := by
  unfold cstep
  refine Nat.xor_lt_two_pow (n := 32) (by omega) ?_
  split <;> omega
theorem iter_lt (n v : Nat) (h : v < 4294967296) : iter n v < 4294967296 := by
  induction n generalizing v with
  | zero => exact h
  | succ n ih => exact ih _ (cstep_lt v h)
/-- The register behind a byte; behind a row of bytes. -/
def cbyte (v b : Nat) : Nat := iter 8 (v ^^^ b)
def crcR (v : Nat) (l : List Nat) : Nat := l.foldl cbyte v
theorem cbyte_lt (v b : Nat) (hv : v < 4294967296) (hb : b < 256) : cbyte v b < 4294967296 :=
  iter_lt _ _ (Nat.xor_lt_two_pow (n := 32) (by omega) (by omega))
end Go.Proofs.YtclgkgaobjcifaaGreatDoor

namespace Go.Proofs.YtclgkgaobjcifaaGreatDoor
open Go.RowKit
def nats (l : List Int) : List Nat := l.map Int.toNat
/-- The check of a row of bytes. -/
def chkN (l : List Int) : Nat := 4294967295 - crcR 4294967295 (nats l)
theorem crcR_lt (l : List Nat) (hl : ∀ x ∈ l, x < 256) (v : Nat) (hv : v < 4294967296) : crcR v l < 4294967296 := by
  induction l generalizing v with
  | nil => exact hv
  | cons b l ih => exact ih (fun x hx => hl x (by simp [hx])) _ (cbyte_lt v b hv (hl b (by simp)))
theorem nats_lt (l : List Int) (h : Bytes l) : ∀ x ∈ nats l, x < 256 := by
  intro x hx
  obtain ⟨y, hy, rfl⟩ := List.mem_map.1 hx
  obtain ⟨j, hj, e⟩ := List.getElem_of_mem hy
  have := h j
  rw [List.getD_eq_getElem?_getD, List.getElem?_eq_getElem hj, e] at this
  simp at this
  omega
theorem i64_xor_nat (a b : Nat) (ha : a < 4294967296) (hb : b < 4294967296) : bits .xor .i64 (a : Int) (b : Int) = ((a ^^^ b : Nat) : Int) := by
  have hx : a ^^^ b < 2 ^ 32 := Nat.xor_lt_two_pow (by omega) (by omega)
  have h1 : (BitVec.ofInt 64 (a : Int)).toNat = a := by
    rw [BitVec.ofInt_natCast, BitVec.toNat_ofNat]; exact Nat.mod_eq_of_lt (by omega)
  have h2 : (BitVec.ofInt 64 (b : Int)).toNat = b := by
    rw [BitVec.ofInt_natCast, BitVec.toNat_ofNat]; exact Nat.mod_eq_of_lt (by omega)
  show IntKind.i64.wrap ((BitVec.ofInt 64 (a : Int) ^^^ BitVec.ofInt 64 (b : Int)).toNat : Int) = _
  rw [BitVec.toNat_xor, h1, h2, IntKind.wrap_i64]
  omega
theorem iter_succ' (n v : Nat) : iter (n + 1) v = cstep (iter n v) := by rw [iter_add]; rfl
theorem nums_nat (s : ByteArray) (i : Nat) (hi : i < s.size) : ∃ B : Nat, B < 256 ∧ (nums s).getD i 0 = (B : Int) ∧ nats ((nums s).take (i + 1)) = nats ((nums s).take i) ++ [B] := by
  have hb := nums_bytes s i
  refine ⟨((nums s).getD i 0).toNat, by omega, by omega, ?_⟩
  have hl : i < (nums s).length := by rw [nums_len]; exact hi
  rw [List.take_add_one, List.getElem?_eq_getElem hl, nats, nats, List.map_append, List.getD_eq_getElem?_getD, List.getElem?_eq_getElem hl]
  rfl
theorem xor_all (v : Nat) (h : v < 4294967296) : v ^^^ 4294967295 = 4294967295 - v := by
  have h1 : (4294967295 : Nat) = 2 ^ 32 - 1 := by decide
  have h2 : v ^^^ (2 ^ 32 - 1) = 2 ^ 32 - 1 - v := by
    apply Nat.eq_of_testBit_eq
    intro i
    rw [Nat.testBit_xor, Nat.testBit_two_pow_sub_one, show 2 ^ 32 - 1 - v = 2 ^ 32 - (v + 1) by omega, Nat.testBit_two_pow_sub_succ (by omega)]
    by_cases hi : i < 32
    · simp [hi]
    · have : v.testBit i = false := Nat.testBit_lt_two_pow (Nat.lt_of_lt_of_le h (by exact Nat.pow_le_pow_right (n := 2) (by decide) (show 32 ≤ i by omega)))
      simp [hi, this]
  rw [h1]; exact h2
set_option maxRecDepth 100000 in
set_option maxHeartbeats 1000000 in
theorem check_g (s : ByteArray) (G : Nat) (hG : G = chkN (nums s)) (hs : s.size ≤ 9223372036854775806) (w : World) :
    Calls Tryz.prog 62 #[.string s] w fun e w' => e = .returned (.int .i64 (G : Int)) ∧ w' = w := by
  have HG := hide hG
  clear hG
  have hix := fun (i : Nat) (hi : i < s.size) (W : World) => index_str s i hi W
  go_enter Tryz.func62, Tryz.ntmps62
  go_wp2
  go_loopw [3, 8] (fun c i wr => ∃ n : Nat, n ≤ s.size ∧ i = .int .i64 (n : Int) ∧ c = .int .u32 (crcR 4294967295 (nats ((nums s).take n)) : Int) ∧ wr = w) (fun _ i _ => s.size - (intOf i).toNat)
  case atStart => exact ⟨0, by omega, rfl, rfl, rfl⟩
  case round =>
    obtain ⟨n, hn, rfl, rfl, rfl⟩ := hrel
    obtain ⟨wo, rfl⟩ : ∃ wo, wo = wr := ⟨_, rfl⟩
    have hlt := crcR_lt (nats ((nums s).take n)) (nats_lt _ (fun j => by
      have := nums_bytes s j
      rw [List.getD_eq_getElem?_getD, List.getElem?_take]
      split
      · rw [← List.getD_eq_getElem?_getD]; exact this
      · simp)) 4294967295 (by omega)
    by_cases hns : n < s.size
    · obtain ⟨B, hB, hBe, hBt⟩ := nums_nat s n hns
      have hi2 := hix n hns
      rw [hBe] at hi2
      have HT := hide hBt
      have HC := hide (show crcR 4294967295 (nats ((nums s).take (n + 1))) = cbyte (crcR 4294967295 (nats ((nums s).take n))) B by rw [hBt, crcR, List.foldl_append]; rfl)
      clear hBt hBe hix
      generalize crcR 4294967295 (nats ((nums s).take n)) = V at *
      have hw8 : IntKind.u32.wrap (B : Int) = (B : Int) := by rw [IntKind.wrap_u32']; omega
      have hx := u32_xor_nat V B hlt (by omega)
      have hxl : V ^^^ B < 4294967296 := Nat.xor_lt_two_pow (n := 32) (by omega) (by omega)
      go_wp2
      go_loopw [3, 17] (fun c i wr => ∃ k : Nat, k ≤ 8 ∧ i = .int .i64 (k : Int) ∧ c = .int .u32 (iter k (V ^^^ B) : Int) ∧ wr = wo) (fun _ i _ => 8 - (intOf i).toNat)
      case atStart => exact ⟨0, by omega, rfl, rfl, rfl⟩
      case round =>
        obtain ⟨k, hk, rfl, rfl, rfl⟩ := hrel
        have hl := iter_lt k (V ^^^ B) hxl
        have HS := hide (iter_succ' k (V ^^^ B))
        by_cases hk8 : k < 8
        · generalize iter k (V ^^^ B) = U at *
          have ha0 := u32_and_nat U 1 hl (by omega)
          rw [Nat.and_one_is_mod] at ha0
          have ha : bits .and .u32 (U : Int) 1 = ((U % 2 : Nat) : Int) := ha0
          have HX2 := hide (u32_xor_nat (U / 2) 3988292384 (by omega) (by omega))
          clear ha0
          rcases Nat.mod_two_eq_zero_or_one U with h | h
          · rw [h] at ha
            go_wp2
            go_roundw
            case rel => exact ⟨k + 1, by omega, by go_num, by rw [unhide HS, cstep, if_neg (by omega), Nat.xor_zero]; simp, trivial⟩
            case measure => simp [intOf]; omega
          · rw [h] at ha
            go_wp2
            go_roundw
            case rel => exact ⟨k + 1, by omega, by go_num, by rw [unhide HS, cstep, if_pos h, ← unhide HX2]; rfl, trivial⟩
            case measure => simp [intOf]; omega
        · obtain rfl : k = 8 := by omega
          go_wp2
          go_roundw
          case rel => exact ⟨n + 1, by omega, by go_num, by rw [unhide HC]; rfl, trivial⟩
          case measure => simp [intOf]; omega
    · have HF := hide (show G = 4294967295 - crcR 4294967295 (nats ((nums s).take n)) by rw [unhide HG, chkN, List.take_of_length_le (by rw [nums_len]; omega)])
      have HX := hide (xor_all _ hlt)
      clear hix HG
      generalize crcR 4294967295 (nats ((nums s).take n)) = V at *
      have hx0 := u32_xor_nat 4294967295 V (by omega) hlt
      rw [Nat.xor_comm, unhide HX] at hx0
      have hx : bits .xor .u32 4294967295 (V : Int) = ((4294967295 - V : Nat) : Int) := hx0
      clear hx0
      obtain ⟨R, hR⟩ : ∃ R, R = 4294967295 - V := ⟨_, rfl⟩
      have hRl : R < 4294967296 := by omega
      rw [← hR] at hx HF
      have HW := hide (show wrap64 (bits .xor .u32 IntKind.u32.max (V : Int)) = (R : Int) by
        have hm : (IntKind.u32.max : Int) = 4294967295 := by decide
        rw [hm, hx]; exact wrap64_eq _ (by omega) (by omega))
      clear hR HX hx
      go_wp2
      go_ret
      refine ⟨?_, rfl⟩
      rw [unhide HF, ← unhide HW]
      rfl
theorem check_any (s : ByteArray) (hs : s.size ≤ 9223372036854775806) (w : World) :
    Calls Tryz.prog 62 #[.string s] w fun e w' => e = .returned (.int .i64 (chkN (nums s) : Int)) ∧ w' = w := check_g s _ rfl hs w
end Go.Proofs.YtclgkgaobjcifaaGreatDoor

namespace Go.Proofs.YtclgkgaobjcifaaGreatDoor
open Go.RowKit
structure Fld where
  ty : Nat
  k : Nat
  b : Nat
  lo : Nat
  hi : Nat
def fTen : Fld := ⟨121, 0, 1, 1, 8⟩
def fQuo : Fld := ⟨122, 0, 2, 0, 65535⟩
def fCha : Fld := ⟨123, 0, 2, 0, 65535⟩
def fVol : Fld := ⟨124, 0, 1, 1, 99⟩
def fBlo : Fld := ⟨125, 0, 1, 0, 255⟩
def fNon : Fld := ⟨126, 0, 4, 0, 4294967295⟩
def fDig : Fld := ⟨130, 1, 32, 0, 0⟩
def fWra : Fld := ⟨131, 1, 48, 0, 0⟩
def fSam : Fld := ⟨132, 1, 8, 0, 0⟩
def fDat : Fld := ⟨133, 1, 256, 0, 0⟩
def fPla : Fld := ⟨135, 2, 8, 0, 0⟩
def fVos : Fld := ⟨136, 3, 9, 0, 0⟩
/-- what a field is in memory: its cells, and the interface value that holds it -/
def Fld.cs (f : Fld) : Array Value := if f.k = 0 then #[.int .i64 (f.b : Int), .int .i64 (f.lo : Int), .int .i64 (f.hi : Int)] else if f.k = 1 then #[.int .i64 (f.b : Int)] else #[]
def fv (f : Fld) : Value := .iface f.ty (.agg f.cs)
/-- one of the twelve -/
def IsF (f : Fld) : Prop := f = fTen ∨ f = fQuo ∨ f = fCha ∨ f = fVol ∨ f = fBlo ∨ f = fNon ∨ f = fDig ∨ f = fWra ∨ f = fSam ∨ f = fDat ∨ f = fPla ∨ f = fVos
/-- one of a request's nine -/
def IsQ (f : Fld) : Prop := f = fTen ∨ f = fQuo ∨ f = fVol ∨ f = fBlo ∨ f = fNon ∨ f = fDig ∨ f = fWra ∨ f = fSam ∨ f = fDat
/-- one of a reply's seven -/
def IsP (f : Fld) : Prop := f = fQuo ∨ f = fCha ∨ f = fVos ∨ f = fNon ∨ f = fPla ∨ f = fWra ∨ f = fDat
/-- the fields of a request of a kind, of a reply to a kind -/
def rqF (k : Int) : List Fld := if k = 1 then [fTen, fQuo] else if k = 2 ∨ k = 3 then [fTen] else if k = 4 ∨ k = 5 then [fVol] else if k = 8 then [fVol, fBlo, fDig, fWra] else if k = 9 then [fNon, fSam] else if k = 10 then [fVol, fBlo, fWra, fDat] else if k = 11 ∨ k = 12 then [fVol, fBlo] else []
def rpF (k : Int) : List Fld := if k = 3 then [fQuo, fCha, fVos] else if k = 6 then [fVos] else if k = 7 then [fQuo, fCha] else if k = 8 then [fNon, fPla] else if k = 11 then [fWra, fDat] else []
/-- how many bytes fields have -/
def szF : List Fld → Nat
  | [] => 0
  | f :: fs => f.b + szF fs
theorem IsQ.isF {f : Fld} (h : IsQ f) : IsF f := by rcases h with rfl | rfl | rfl | rfl | rfl | rfl | rfl | rfl | rfl <;> simp [IsF]
theorem IsP.isF {f : Fld} (h : IsP f) : IsF f := by rcases h with rfl | rfl | rfl | rfl | rfl | rfl | rfl <;> simp [IsF]
theorem rqF_all (k : Int) : ∀ f ∈ rqF k, IsQ f := by
  unfold rqF
  intro f hf
  (repeat' split at hf) <;> simp at hf <;> unfold IsQ <;> (try rcases hf with rfl | rfl | rfl | rfl) <;> (try rcases hf with rfl | rfl) <;> (try subst hf) <;> simp
theorem rpF_all (k : Int) : ∀ f ∈ rpF k, IsP f := by
  unfold rpF
  intro f hf
  (repeat' split at hf) <;> simp at hf <;> unfold IsP <;> (try rcases hf with rfl | rfl | rfl) <;> (try rcases hf with rfl | rfl) <;> (try subst hf) <;> simp
theorem isF_b {f : Fld} (h : IsF f) : 1 ≤ f.b ∧ f.b ≤ 256 := by
  rcases h with rfl | rfl | rfl | rfl | rfl | rfl | rfl | rfl | rfl | rfl | rfl | rfl <;> exact ⟨by decide, by decide⟩
theorem rqF_len (k : Int) : (rqF k).length ≤ 4 := by unfold rqF; (repeat' split) <;> simp
theorem rpF_len (k : Int) : (rpF k).length ≤ 4 := by unfold rpF; (repeat' split) <;> simp
theorem szF_le (fs : List Fld) (h : ∀ f ∈ fs, IsF f) : szF fs ≤ 256 * fs.length := by
  induction fs with
  | nil => simp [szF]
  | cons f fs ih =>
    have := (isF_b (h f (by simp))).2
    have := ih (fun g hg => h g (by simp [hg]))
    simp only [szF, List.length_cons]; omega
theorem szF_snoc (fs : List Fld) (i : Nat) (hi : i < fs.length) : szF (fs.take (i + 1)) = szF (fs.take i) + (fs[i]).b := by
  induction fs generalizing i with
  | nil => simp at hi
  | cons f fs ih =>
    cases i with
    | zero => simp [szF]
    | succ i =>
      simp only [List.take_succ_cons, szF, List.getElem_cons_succ]
      rw [ih i (by simpa using hi)]; omega
/-- a row of fields in memory -/
def FR (w : World) (v : Value) (fs : List Fld) : Prop := (fs = [] ∧ v = .slice none 0 0) ∨ ∃ b, v = .slice (some ⟨b, 0, none⟩) fs.length fs.length ∧ Blk w b (fs.map fv).toArray 101
theorem FR.form {w : World} {v : Value} {fs : List Fld} (h : FR w v fs) : ∃ p, v = .slice p fs.length fs.length ∧ (0 < fs.length → ∃ b, p = some ⟨b, 0, none⟩ ∧ Blk w b (fs.map fv).toArray 101) := by
  rcases h with ⟨rfl, rfl⟩ | ⟨b, rfl, hb⟩
  · exact ⟨none, rfl, fun h => absurd h (by simp)⟩
  · exact ⟨_, rfl, fun _ => ⟨b, rfl, hb⟩⟩
theorem FR.below {w w' : World} {B : Nat} {v : Value} {fs : List Fld} (h : FR w v fs) (hb : Below B w w') (hB : ∀ b, v.ownBlock = some b → b < B) : FR w' v fs := by
  rcases h with ⟨rfl, rfl⟩ | ⟨b, rfl, h⟩
  · exact .inl ⟨rfl, rfl⟩
  · exact .inr ⟨b, rfl, h.below hb (hB b (by simp [Value.ownBlock]))⟩
theorem FR.only {w w' : World} {P : Nat → Prop} {v : Value} {fs : List Fld} (h : FR w v fs) (ho : Only P w w') (hp : ∀ b, v.ownBlock = some b → ¬ P b) : FR w' v fs := by
  rcases h with ⟨rfl, rfl⟩ | ⟨b, rfl, h⟩
  · exact .inl ⟨rfl, rfl⟩
  · exact .inr ⟨b, rfl, h.only ho (hp b (by simp [Value.ownBlock]))⟩
theorem FR.lt {w : World} {v : Value} {fs : List Fld} (h : FR w v fs) : ∀ b, v.ownBlock = some b → b < w.heap.size := by
  rcases h with ⟨rfl, rfl⟩ | ⟨b, rfl, h⟩
  · intro b hb; simp [Value.ownBlock] at hb
  · intro c hc; simp [Value.ownBlock] at hc; subst hc; exact h.lt
/-- a request -/
structure Req where
  kd : Int
  te : Int
  qu : Int
  vo : Int
  bl : Int
  no : Int
  di : ByteArray
  wr : ByteArray
  sa : ByteArray
  da : ByteArray
def Req.cs (r : Req) : Array Value := #[.int .i64 r.kd, .int .i64 r.te, .int .i64 r.qu, .int .i64 r.vo, .int .i64 r.bl, .int .i64 r.no, .string r.di, .string r.wr, .string r.sa, .string r.da]
def Req.bare (k : Int) : Req := ⟨k, 0, 0, 0, 0, 0, ⟨#[]⟩, ⟨#[]⟩, ⟨#[]⟩, ⟨#[]⟩⟩
/-- a part of a request or a reply: a number, a text, a list (its slice) -/
structure Prt where
  n : Int
  t : ByteArray
  p : Option Addr
  m : Nat
  c : Nat
def Prt.cs (p : Prt) : Array Value := #[.int .i64 p.n, .string p.t, .slice p.p p.m p.c]
def Prt.nil : Prt := ⟨0, ⟨#[]⟩, none, 0, 0⟩
def Prt.num (n : Int) : Prt := ⟨n, ⟨#[]⟩, none, 0, 0⟩
def Prt.txt (t : ByteArray) : Prt := ⟨0, t, none, 0, 0⟩
/-- a request with another part in the stead of a field's, and that one -/
def exq (f : Fld) (r : Req) (p : Prt) : Req × Prt :=
  if f.ty = 121 then ({ r with te := p.n }, Prt.num r.te)
  else if f.ty = 122 then ({ r with qu := p.n }, Prt.num r.qu)
  else if f.ty = 124 then ({ r with vo := p.n }, Prt.num r.vo)
  else if f.ty = 125 then ({ r with bl := p.n }, Prt.num r.bl)
  else if f.ty = 126 then ({ r with no := p.n }, Prt.num r.no)
  else if f.ty = 130 then ({ r with di := p.t }, Prt.txt r.di)
  else if f.ty = 131 then ({ r with wr := p.t }, Prt.txt r.wr)
  else if f.ty = 132 then ({ r with sa := p.t }, Prt.txt r.sa)
  else ({ r with da := p.t }, Prt.txt r.da)
/-- may a field that is a number or a text be this part? and its bytes -/
def okF (f : Fld) (p : Prt) : Bool := if f.k = 0 then decide ((f.lo : Int) ≤ p.n ∧ p.n ≤ (f.hi : Int)) else decide (p.t.size = f.b)
def byF (f : Fld) (p : Prt) : List Int := if f.k = 0 then numB p.n f.b else nums p.t
/-- fields laid down: what is left of the request, and the bytes -/
def layQ : List Fld → Req → Option (Req × List Int)
  | [], r => some (r, [])
  | f :: fs, r => if okF f (exq f r Prt.nil).2 then (layQ fs (exq f r Prt.nil).1).map (fun x => (x.1, byF f (exq f r Prt.nil).2 ++ x.2)) else none
end Go.Proofs.YtclgkgaobjcifaaGreatDoor

namespace Go.Proofs.YtclgkgaobjcifaaGreatDoor
open Go.RowKit
set_option maxRecDepth 100000
theorem isKind_any (z : Int) (w : World) : Calls Tryz.prog 27 #[.int .i64 z] w fun e w' => e = .returned (.bool (decide (1 ≤ z ∧ z ≤ 12))) ∧ w' = w := by
  by_cases h0 : 1 ≤ z
  · have hd : decide ((1 : Int) ≤ z) = true := by simpa using h0
    have he : decide (1 ≤ z ∧ z ≤ 12) = decide (z ≤ 12) := by simp [h0]
    rw [he]
    clear h0 he
    generalize hdz : decide (z ≤ 12) = dz at *
    go_enter Tryz.func27, Tryz.ntmps27
    go_wp2
    go_ret
    exact ⟨rfl, rfl⟩
  · have hd : decide ((1 : Int) ≤ z) = false := by simpa using h0
    have he : decide (1 ≤ z ∧ z ≤ 12) = false := by simp [h0]
    rw [he]
    clear h0 he
    go_enter Tryz.func27, Tryz.ntmps27
    go_wp2
    go_ret
    exact ⟨rfl, rfl⟩
theorem isStatus_any (z : Int) (w : World) : Calls Tryz.prog 35 #[.int .i64 z] w fun e w' => e = .returned (.bool (decide (0 ≤ z ∧ z ≤ 13))) ∧ w' = w := by
  by_cases h0 : 0 ≤ z
  · have hd : decide ((0 : Int) ≤ z) = true := by simpa using h0
    have he : decide (0 ≤ z ∧ z ≤ 13) = decide (z ≤ 13) := by simp [h0]
    rw [he]
    clear h0 he
    generalize hdz : decide (z ≤ 13) = dz at *
    go_enter Tryz.func35, Tryz.ntmps35
    go_wp2
    go_ret
    exact ⟨rfl, rfl⟩
  · have hd : decide ((0 : Int) ≤ z) = false := by simpa using h0
    have he : decide (0 ≤ z ∧ z ≤ 13) = false := by simp [h0]
    rw [he]
    clear h0 he
    go_enter Tryz.func35, Tryz.ntmps35
    go_wp2
    go_ret
    exact ⟨rfl, rfl⟩
theorem isReplyKind_any (z : Int) (w : World) : Calls Tryz.prog 34 #[.int .i64 z] w fun e w' => e = .returned (.bool (decide (0 ≤ z ∧ z ≤ 12))) ∧ w' = w := by
  by_cases h0 : z = 0
  · subst h0
    go_enter Tryz.func34, Tryz.ntmps34
    go_wp2
    go_ret
    exact ⟨rfl, rfl⟩
  · have hd : (z == 0) = false := by simpa using h0
    have he : decide (1 ≤ z ∧ z ≤ 12) = decide (0 ≤ z ∧ z ≤ 12) := by
      have : (1 ≤ z ∧ z ≤ 12) ↔ (0 ≤ z ∧ z ≤ 12) := by omega
      simp [this]
    have HK := hide (isKind_any z)
    rw [he] at HK
    clear he h0
    generalize hdz : decide (0 ≤ z ∧ z ≤ 12) = dz at *
    clear hdz
    go_enter Tryz.func34, Tryz.ntmps34
    go_wp2_with (go_at_call 27; refine (unhide HK _).mono ?_; rintro e x ⟨rfl, rfl⟩)
    go_ret
    exact ⟨rfl, rfl⟩
def fullP (k s : Int) : Bool := if k = 8 then decide (s = 1) else decide (s = 0)
theorem isFull_any (k s : Int) (w : World) : Calls Tryz.prog 63 #[.int .i64 k, .int .i64 s] w fun e w' => e = .returned (.bool (fullP k s)) ∧ w' = w := by
  by_cases h0 : k = 8
  · have he : fullP k s = (s == 1) := by simp [fullP, h0]; rfl
    rw [he]
    subst h0
    clear he
    go_enter Tryz.func63, Tryz.ntmps63
    go_wp2
    go_ret
    exact ⟨rfl, rfl⟩
  · have he : fullP k s = (s == 0) := by simp [fullP, h0]; rfl
    have hd : (k == 8) = false := by simpa using h0
    rw [he]
    clear he h0
    go_enter Tryz.func63, Tryz.ntmps63
    go_wp2
    go_ret
    exact ⟨rfl, rfl⟩
theorem mayBe_any (b lo hi n : Int) (w : World) : Calls Tryz.prog 133 #[.agg #[.int .i64 b, .int .i64 lo, .int .i64 hi], .int .i64 n] w fun e w' => e = .returned (.bool (decide (lo ≤ n ∧ n ≤ hi))) ∧ Below w.heap.size w w' := by
  by_cases h0 : lo ≤ n
  · have hd : decide (lo ≤ n) = true := by simpa using h0
    have he : decide (lo ≤ n ∧ n ≤ hi) = decide (n ≤ hi) := by simp [h0]
    rw [he]
    clear h0 he
    generalize hdz : decide (n ≤ hi) = dz at *
    go_enter Tryz.func133, Tryz.ntmps133
    go_wp2
    go_ret
    exact ⟨rfl, (Below.refl _ _).alloc (Nat.le_refl _) _⟩
  · have hd : decide (lo ≤ n) = false := by simpa using h0
    have he : decide (lo ≤ n ∧ n ≤ hi) = false := by simp [h0]
    rw [he]
    clear h0 he
    go_enter Tryz.func133, Tryz.ntmps133
    go_wp2
    go_ret
    exact ⟨rfl, (Below.refl _ _).alloc (Nat.le_refl _) _⟩
theorem nsize_any (b lo hi : Int) (w : World) : Calls Tryz.prog 131 #[.agg #[.int .i64 b, .int .i64 lo, .int .i64 hi]] w fun e w' => e = .returned (.int .i64 b) ∧ Below w.heap.size w w' := by
  go_enter Tryz.func131, Tryz.ntmps131
  go_wp2
  go_ret
  exact ⟨rfl, (Below.refl _ _).alloc (Nat.le_refl _) _⟩
theorem tsize_any (b : Int) (w : World) : Calls Tryz.prog 135 #[.agg #[.int .i64 b]] w fun e w' => e = .returned (.int .i64 b) ∧ Below w.heap.size w w' := by
  go_enter Tryz.func135, Tryz.ntmps135
  go_wp2
  go_ret
  exact ⟨rfl, (Below.refl _ _).alloc (Nat.le_refl _) _⟩
theorem psize_any (w : World) : Calls Tryz.prog 138 #[.agg #[]] w fun e w' => e = .returned (.int .i64 8) ∧ Below w.heap.size w w' := by
  go_enter Tryz.func138, Tryz.ntmps138
  go_wp2
  go_ret
  exact ⟨rfl, (Below.refl _ _).alloc (Nat.le_refl _) _⟩
theorem vsize_any (w : World) : Calls Tryz.prog 142 #[.agg #[]] w fun e w' => e = .returned (.int .i64 9) ∧ Below w.heap.size w w' := by
  go_enter Tryz.func142, Tryz.ntmps142
  go_wp2
  go_ret
  exact ⟨rfl, (Below.refl _ _).alloc (Nat.le_refl _) _⟩
end Go.Proofs.YtclgkgaobjcifaaGreatDoor
