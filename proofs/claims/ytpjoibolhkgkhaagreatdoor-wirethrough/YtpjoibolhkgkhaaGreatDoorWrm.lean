import Derived.Test.YtpjoibolhkgkhaaGreatDoorWrn
namespace Go.Proofs.YtpjoibolhkgkhaaGreatDoor
open Go.RowKit
theorem refuseP {w wr : World} {base b : Nat} {v : Value} {l : List Int} {e : Int} (h : WPost base b v l e w wr) (x : Int) :
    Calls Tryz.prog 58 #[.pointer (some ⟨b, 0, none⟩), .int .i64 x] wr fun ev w' => ev = .returned (.tuple #[]) ∧ WPost base b v (if e = 0 then [] else l) (if e = 0 then x else e) w w' := by
  obtain ⟨v1, h1, h2, h3⟩ := h
  exact (refuse_any wr base b v1 l e h1 x).mono (by rintro ev w' ⟨rfl, hp⟩; exact ⟨rfl, WPost.trans h2 h3 hp⟩)
set_option maxRecDepth 100000 in
set_option maxHeartbeats 2000000 in
theorem num_any (w : World) (base b : Nat) (v : Value) (l : List Int) (e : Int) (h : Wtr w base b v l e) (hb : base ≤ w.heap.size) (bytes : Int) (L : List Int) (p : Option Addr) (cap : Nat)
    (hp : L = [] ∨ ∃ lb lo, p = some ⟨lb, lo, none⟩ ∧ lb < w.heap.size ∧ ¬ Fp b v lb ∧ ∀ j, j < L.length → w.cell? ⟨lb, lo + j, none⟩ = some (.int .i64 (L.getD j 0)))
    (hsz : l.length + 8 * L.length ≤ 140737488355328) :
    Calls Tryz.prog 29 #[.pointer (some ⟨b, 0, none⟩), .int .i64 bytes, .slice p L.length cap] w fun ev w' => ev = .returned (.tuple #[]) ∧ WPost base b v (wl l e (errN bytes L) (outN bytes.toNat L)) (we e (errN bytes L)) w w' := by
  by_cases hw : 1 ≤ bytes ∧ bytes ≤ 8
  · obtain ⟨k, rfl⟩ := Int.eq_ofNat_of_zero_le (show 0 ≤ bytes by omega)
    have HW := hide (fun W => isWidth_any (k : Int) W)
    rw [decide_eq_true hw] at HW
    obtain ⟨hk1, hk8⟩ := hw
    have hE : errN (k : Int) L = if ∀ n ∈ L, fitsP n k then 0 else 30 := by rw [errN, if_neg (by omega), Int.toNat_natCast]
    rw [Int.toNat_natCast]
    have HS := hide (show WPost base b v (wl l e 0 (outN k (L.take 0))) e w w by
      rw [List.take_zero, show outN k [] = [] from rfl, wl_nil]
      exact WPost.refl h)
    have HE := hide hE
    clear hE h
    have hk1' : 1 ≤ k := by omega
    have hk8' : k ≤ 8 := by omega
    clear hk1 hk8
    have HPT := hide hp
    clear hp
    generalize errN (k : Int) L = E at *
    go_enter Tryz.func29, Tryz.ntmps29
    go_wp2_with (go_at_call 57; refine (unhide HW _).mono ?_; rintro ev w' ⟨rfl, rfl⟩)
    go_loopw [16] (fun u wr => ∃ i : Nat, i ≤ L.length ∧ u = .int .i64 (i : Int) ∧ (∀ n ∈ L.take i, fitsP n k) ∧ WPost base b v (wl l e 0 (outN k (L.take i))) e w' wr) (fun u _ => L.length - (intOf u).toNat)
    case atStart => exact ⟨0, by omega, rfl, fun n hn => by simp at hn, unhide HS⟩
    case round =>
      obtain ⟨i, hi, rfl, hall, hP⟩ := hrel
      have HP := hide hP
      have HA := hide hall
      clear hP hall HS HW
      obtain ⟨wo, rfl⟩ : ∃ wo, wo = wr := ⟨_, rfl⟩
      by_cases hiL : i < L.length
      · have hlen : (wl l e 0 (outN k (L.take i))).length + k ≤ 140737488355328 := by
          have h1 := wl_len l e (outN k (L.take i))
          rw [outN_len, List.length_take, Nat.min_eq_left (by omega)] at h1
          have h2 : k * i + k ≤ 8 * L.length := by
            have : k * (i + 1) ≤ 8 * L.length := Nat.mul_le_mul hk8' hiL
            rw [Nat.mul_succ] at this
            exact this
          omega
        obtain ⟨lb, lo, rfl, hlb, hfp, hc⟩ : ∃ lb lo, p = some ⟨lb, lo, none⟩ ∧ lb < w'.heap.size ∧ ¬ Fp b v lb ∧ ∀ j, j < L.length → w'.cell? ⟨lb, lo + j, none⟩ = some (.int .i64 (L.getD j 0)) := by
          rcases unhide HPT with h | h
          · subst h; simp at hiL
          · exact h
        have c1 : wo.cell? ⟨lb, lo + i, none⟩ = some (.int .i64 (L.getD i 0)) := by
          obtain ⟨v1, _, h2, _⟩ := unhide HP
          rw [World.cell?_of_block (w := w') (a := ⟨lb, lo + i, none⟩) (h2.2 lb hlb hfp)]
          exact hc i hiL
        have HN := hide (outN_snoc k L i hiL)
        have hmem : L.getD i 0 ∈ L := by
          rw [List.getD_eq_getElem?_getD, List.getElem?_eq_getElem hiL]
          exact List.getElem_mem _
        have HM := hide hmem
        have HT : Hid (L.take (i + 1) = L.take i ++ [L.getD i 0]) := hide (by rw [List.take_add_one, List.getElem?_eq_getElem hiL, List.getD_eq_getElem?_getD, List.getElem?_eq_getElem hiL]; rfl)
        clear hc hmem
        generalize L.getD i 0 = n at *
        have HF := hide (fun W => fits_any n k hk8' W)
        by_cases hf : fitsP n k
        · rw [decide_eq_true hf] at HF
          go_wp2_with (go_at_call 59; refine (unhide HF _).mono ?_; rintro ev w1 ⟨rfl, rfl⟩)
          clear c1 HF
          go_loopw [8] (fun u wr => ∃ q j : Nat, q + j = k ∧ u = .int .i64 ((q : Int) - 1) ∧ WPost base b v (wl l e 0 (outN k (L.take i) ++ (numB n k).take j)) e w' wr) (fun u _ => ((intOf u) + 1).toNat)
          case atStart => exact ⟨k, 0, by omega, rfl, by rw [List.take_zero, List.append_nil]; exact unhide HP⟩
          case round =>
            obtain ⟨q, j, hqj, rfl, hP2⟩ := hrel
            have HP2 := hide hP2
            clear hP2 HP
            cases q with
            | zero =>
              have hj : j = k := by omega
              subst hj
              go_wp2
              go_roundw
              case rel => exact ⟨i + 1, by omega, by go_num, fun x hx => by
                rw [unhide HT] at hx
                rcases List.mem_append.1 hx with h | h
                · exact unhide HA x h
                · rw [List.mem_singleton.1 h]; exact hf, by rw [unhide HN, ← numB_all n j]; exact unhide HP2⟩
              case measure => simp [intOf]; omega
            | succ q =>
              have hq1 : ((q + 1 : Nat) : Int) - 1 = (q : Int) := by omega
              rw [hq1]
              have ht : (8 * (q : Int)).toNat = 8 * q := by omega
              have h64 : 8 * (q : Int) ≤ 64 := by omega
              have hl2 : (wl l e 0 (outN k (L.take i) ++ (numB n k).take j)).length + 1 ≤ 140737488355328 := by
                have h1 := wl_len (wl l e 0 (outN k (L.take i))) e ((numB n k).take j)
                rw [wl_two] at h1
                have h2 : ((numB n k).take j).length ≤ j := by simp; omega
                omega
              have HX := hide (numB_take n k j (by omega))
              rw [show k - 1 - j = q by omega] at HX
              have hq8 : q ≤ 8 := by omega
              clear hq1
              go_wp2_with (go_at_call 60; refine (lay1 (unhide HP2) (by assumption) _ _ hl2).mono ?_; rintro ev w2 ⟨rfl, hP3⟩; have HP3 := hide hP3; clear hP3)
              go_roundw
              case rel => exact ⟨q, j + 1, by omega, by go_num, by rw [unhide HX, ← List.append_assoc, ← wl_two]; exact unhide HP3⟩
              case measure => simp [intOf]
        · rw [decide_eq_false hf] at HF
          have hEE : E = 30 := by rw [unhide HE, if_neg (fun q => hf (q n (unhide HM)))]
          go_wp2_with (first | (go_at_call 59; refine (unhide HF _).mono ?_; rintro ev w1 ⟨rfl, rfl⟩) | (go_at_call 58; refine (refuseP (unhide HP) 30).mono ?_; rintro ev w2 ⟨rfl, hP3⟩; have HP3 := hide hP3; clear hP3))
          (try simp only [Exit.inBlock, Exit.then])
          refine bodyPost_ret (results_none rfl _ _ _) rfl ⟨rfl, ?_⟩
          rw [← wl_bad l e E (outN k (L.take i)) _ (by omega), we, hEE]
          exact unhide HP3
      · have hEE : E = 0 := by
          rw [unhide HE, if_pos (fun n hn => unhide HA n (by rw [List.take_of_length_le (by omega)]; exact hn))]
        have HPE : Hid (WPost base b v (wl l e E (outN k L)) (we e E) w' wo) := hide (by
          have := unhide HP
          rw [List.take_of_length_le (by omega)] at this
          rw [hEE, we_ok]
          exact this)
        clear hEE
        go_wp2
        go_end0
        exact ⟨rfl, unhide HPE⟩
  · have HW := hide (fun W => isWidth_any bytes W)
    rw [decide_eq_false hw] at HW
    have hE : errN bytes L = 1 := by rw [errN, if_pos (by omega)]
    rw [hE]
    have HR := hide (refuse_any w base b v l e h 1)
    have e1 : (if e = 0 then [] else l) = wl l e 1 (outN bytes.toNat L) := by simp [wl]
    have e2 : (if e = 0 then (1 : Int) else e) = we e 1 := rfl
    rw [e1, e2] at HR
    generalize wl l e 1 (outN bytes.toNat L) = X at *
    generalize we e 1 = Y at *
    clear h hp hE e1 e2
    go_enter Tryz.func29, Tryz.ntmps29
    go_wp2_with (first | (go_at_call 57; refine (unhide HW _).mono ?_; rintro ev w1 ⟨rfl, rfl⟩) | (go_at_call 58; refine (unhide HR).mono ?_; rintro ev w2 ⟨rfl, hP3⟩; have HP3 := hide hP3; clear hP3))
    (try simp only [Exit.inBlock, Exit.then])
    exact bodyPost_ret (results_none rfl _ _ _) rfl ⟨rfl, unhide HP3⟩
/-- A call with which something is wrong. -/
theorem refuseW (w : World) (base b : Nat) (v : Value) (l : List Int) (e : Int) (h : Wtr w base b v l e) (x : Int) (hx : x ≠ 0) (out : List Int) :
    Calls Tryz.prog 58 #[.pointer (some ⟨b, 0, none⟩), .int .i64 x] w fun ev w' => ev = .returned (.tuple #[]) ∧ WPost base b v (wl l e x out) (we e x) w w' := by
  have h1 := refuse_any w base b v l e h x
  have e1 : (if e = 0 then [] else l) = wl l e x out := by simp [wl, hx]
  rw [e1] at h1
  exact h1
theorem there_bsl {w : World} {base b cap : Nat} {L : List Int} (h : Bsl w base b cap L) : ∀ j, j < L.length → w.cell? ((⟨b, 0, none⟩ : Addr).add j) = some (.int .u8 (L.getD j 0)) := by
  intro j hj
  rw [Addr.add_mid]
  exact h.2.2.2.2.1.get j hj
set_option maxRecDepth 100000 in
set_option maxHeartbeats 1000000 in
theorem raw_any (w : World) (base b : Nat) (v : Value) (l : List Int) (e : Int) (h : Wtr w base b v l e) (hb : base ≤ w.heap.size) (s : ByteArray) (hsz : l.length + s.size ≤ 140737488355328) :
    Calls Tryz.prog 64 #[.pointer (some ⟨b, 0, none⟩), .string s] w fun ev w' => ev = .returned (.tuple #[]) ∧ WPost base b v (wl l e 0 (nums s)) e w w' := by
  obtain ⟨cap, W, hrun, hB, hbel⟩ := Bsl.of_string w s (by omega)
  have hO : Only (fun _ => False) w W := Only.of_below hbel
  have HL := hide (lay_any W base b v l e (h.only hO (fun _ _ q => q)) (Nat.le_trans hb hbel.size) ⟨w.heap.size, 0, none⟩ s.size cap (nums s) (nums_len s) (fun j hj => there_bsl hB j (by rw [nums_len]; exact hj)) hsz)
  rw [← wl_ok] at HL
  have HO := hide hO
  clear h hB hbel hO
  generalize wl l e 0 (nums s) = X at *
  go_enter Tryz.func64, Tryz.ntmps64
  go_wp2_with (go_at_call 60; refine (unhide HL).mono ?_; rintro ev w2 ⟨rfl, hP3⟩; have HP3 := hide hP3; clear hP3)
  go_end0
  exact ⟨rfl, WPost.trans (v1 := v) ((unhide HO).mono (fun _ _ q => q.elim)) (fun k hk => .inl hk) (unhide HP3)⟩
end Go.Proofs.YtpjoibolhkgkhaaGreatDoor
