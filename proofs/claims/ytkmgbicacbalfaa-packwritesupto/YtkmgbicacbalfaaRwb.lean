import Derived.Test.YtkmgbicacbalfaaRwa
import Derived.Test.YtkmgbicacbalfaaRwp
import Derived.Test.YtkmgbicacbalfaaWrd
import Derived.Test.YtkmgbicacbalfaaLwh
import Derived.Deep.RegionWith
namespace Go.Proofs.Ytkmgbicacbalfaa
open Go.RowKit
theorem Rwt.cells {w x : World} {b : Nat} {S : ByteArray} {e : Int} (h : Rwt w b S e) (hB : Below w.drew.heap.size w.drew x) : x.cell? ⟨b, 0, none⟩ = some (.string S) ∧ x.frozen? ⟨b, 0, none⟩ = false ∧ Rwt x b S e ∧ Only (fun k => k = b) w x := by
  have hb : Blk w.drew b #[.string S, .int .i64 e] 36 := h
  have hx := hb.below hB hb.lt
  exact ⟨by rw [hx.cell 0]; rfl, hx.frozen 0, hx, (Only.refl _ w).drew.trans (Only.of_below (P := fun _ => False) hB) (fun _ _ q => q.elim)⟩
set_option maxRecDepth 100000 in
set_option maxHeartbeats 1000000 in
theorem rwvar_any (w : World) (b : Nat) (S : ByteArray) (e : Int) (h : Rwt w b S e) (z : Int) (hz : z ≤ 9223372036854775807) (hs : S.size ≤ 1000000000000000) :
    Calls Try.prog 24 #[.pointer (some ⟨b, 0, none⟩), .int .i64 z] w fun ev w' => ev = .returned (.tuple #[]) ∧ Rwt w' b (sw S (if z < 0 then 30 else 0) (digN z.toNat)) (we e (if z < 0 then 30 else 0)) ∧ Only (fun k => k = b) w w' := by
  have HW := hide h
  by_cases hz0 : z < 0
  · rw [if_pos hz0, sw, if_neg (by decide)]
    have HK := hide (fun W (q : Rwt W b S e) => rwrong_any W b S e 30 q)
    clear h
    go_enter Try.func24, Try.ntmps24
    go_wp2_with fail
    refine (unhide HK _ (unhide HW)).mono ?_
    rintro ev x1 ⟨rfl, hx, hO⟩
    have HX := hide (And.intro hx hO)
    clear hx hO
    go_wp2
    (try simp only [Exit.inBlock, Exit.then])
    exact bodyPost_ret (results_none rfl _ _ _) rfl ⟨rfl, unhide HX⟩
  · rw [if_neg hz0, sw, if_pos rfl, we_ok]
    obtain ⟨n, rfl⟩ := Int.eq_ofNat_of_zero_le (show 0 ≤ z by omega)
    rw [Int.toNat_natCast]
    have HD := hide (fun W => rdigits_any n (by omega) W)
    obtain ⟨D, hD⟩ : ∃ D, strOfNums (digN n) = D := ⟨_, rfl⟩
    have hDs : D.size ≤ 9 := by rw [← hD, strOfNums_size]; exact (digN_nine n (by omega)).2
    rw [hD] at HD ⊢
    clear hD
    have c0 : w.cell? ⟨b, 0, none⟩ = some (.string S) := by rw [h.cell 0]; rfl
    clear h
    have y1 : ¬ 9223372036854775807 < S.size + D.size := by omega
    go_enter Try.func24, Try.ntmps24
    go_wp2
    go_region_with (go_at_call 38; refine (unhide HD _).mono ?_; rintro ev x1 ⟨rfl, hB⟩; obtain ⟨c1, f1, hx, hO⟩ := (unhide HW).cells hB; have HX := hide (And.intro hx hO); clear hx hO hB)
    all_goals
      go_end0
      exact ⟨rfl, (unhide HX).1.set 0 _, (unhide HX).2.setCell _ _ (fun _ => rfl)⟩
set_option maxRecDepth 100000 in
set_option maxHeartbeats 1000000 in
theorem rwtext_any (w : World) (b : Nat) (S s : ByteArray) (e most : Int) (h : Rwt w b S e) (hs : S.size + s.size ≤ 1000000000000000) :
    Calls Try.prog 28 #[.pointer (some ⟨b, 0, none⟩), .string s, .int .i64 most] w fun ev w' => ev = .returned (.tuple #[]) ∧ Rwt w' b (sw S (errX most s.size) (digN s.size ++ nums s)) (we e (errX most s.size)) ∧ Only (fun k => k = b) w w' := by
  have HW := hide h
  have HK := hide (fun W x (q : Rwt W b S e) => rwrong_any W b S e x q)
  by_cases h0 : most < 0
  · rw [errX, if_pos h0, sw, if_neg (by decide)]
    clear h
    go_enter Try.func28, Try.ntmps28
    go_wp2_with fail
    refine (unhide HK _ _ (unhide HW)).mono ?_
    rintro ev x1 ⟨rfl, hx, hO⟩
    have HX := hide (And.intro hx hO)
    clear hx hO
    go_wp2
    (try simp only [Exit.inBlock, Exit.then])
    exact bodyPost_ret (results_none rfl _ _ _) rfl ⟨rfl, unhide HX⟩
  · by_cases h1 : most < (s.size : Int)
    · rw [errX, if_neg h0, if_pos h1, sw, if_neg (by decide)]
      clear h
      go_enter Try.func28, Try.ntmps28
      go_wp2_with fail
      refine (unhide HK _ _ (unhide HW)).mono ?_
      rintro ev x1 ⟨rfl, hx, hO⟩
      have HX := hide (And.intro hx hO)
      clear hx hO
      go_wp2
      (try simp only [Exit.inBlock, Exit.then])
      exact bodyPost_ret (results_none rfl _ _ _) rfl ⟨rfl, unhide HX⟩
    · rw [errX, if_neg h0, if_neg h1, sw, if_pos rfl, we_ok, strOfNums_app, strOfNums_nums, ← ByteArray.append_assoc]
      obtain ⟨n, hn⟩ : ∃ n, s.size = n := ⟨_, rfl⟩
      rw [hn] at hs h1 ⊢
      have HD := hide (fun W => rdigits_any n (by omega) W)
      obtain ⟨D, hD⟩ : ∃ D, strOfNums (digN n) = D := ⟨_, rfl⟩
      have hDs : D.size ≤ 9 := by rw [← hD, strOfNums_size]; exact (digN_nine n (by omega)).2
      rw [hD] at HD ⊢
      clear hD HK
      have c0 : w.cell? ⟨b, 0, none⟩ = some (.string S) := by rw [h.cell 0]; rfl
      clear h
      have y1 : ¬ 9223372036854775807 < S.size + D.size := by omega
      have y2 : ¬ 9223372036854775807 < (S ++ D).size + n := by rw [ByteArray.size_append]; omega
      have y3 : ¬ 9223372036854775807 < S.size + D.size + n := by omega
      go_enter Try.func28, Try.ntmps28
      go_wp2
      go_region_with (go_at_call 38; refine (unhide HD _).mono ?_; rintro ev x1 ⟨rfl, hB⟩; obtain ⟨c1, f1, hx, hO⟩ := (unhide HW).cells hB; have HX := hide (And.intro hx hO); clear hx hO hB)
      all_goals
        go_end0
        exact ⟨rfl, (unhide HX).1.set 0 _, (unhide HX).2.setCell _ _ (fun _ => rfl)⟩
theorem errN_take (k : Nat) (h1 : 1 ≤ k) (h8 : k ≤ 8) (L : List Int) : errN (k : Int) L = if ∀ n ∈ L, fitsP n k then 0 else 30 := by rw [errN, if_neg (by omega), Int.toNat_natCast]
theorem mem_getD (L : List Int) (j : Nat) (hj : j < L.length) : L.getD j 0 ∈ L := by
  rw [List.getD_eq_getElem?_getD, List.getElem?_eq_getElem hj]
  exact List.getElem_mem hj
set_option maxRecDepth 100000 in
set_option maxHeartbeats 2000000 in
theorem rwnum_any (w : World) (b : Nat) (S : ByteArray) (e bytes : Int) (h : Rwt w b S e) (L : List Int) (p : Option Addr) (c : Nat) (hL : Inl w p L) (hLb : ∀ z ∈ L, z ≤ 9223372036854775807) (hpb : 0 < L.length → ∀ o, p ≠ some ⟨b, o, none⟩) (hll : L.length ≤ 1000000000) (hs : S.size ≤ 1000000000000000) :
    Calls Try.prog 20 #[.pointer (some ⟨b, 0, none⟩), .int .i64 bytes, .slice p L.length c] w fun ev w' => ev = .returned (.tuple #[]) ∧ Rwt w' b (sw S (errN bytes L) (outN bytes.toNat L)) (we e (errN bytes L)) ∧ Only (fun k => k = b) w w' := by
  have HK := hide (fun W x (q : Rwt W b S e) => rwrong_any W b S e x q)
  have HW := hide h
  by_cases hw : 1 ≤ bytes ∧ bytes ≤ 8
  · obtain ⟨k, rfl⟩ := Int.eq_ofNat_of_zero_le (show 0 ≤ bytes by omega)
    have hk1 : 1 ≤ k := by omega
    have hk8 : k ≤ 8 := by omega
    obtain ⟨E, hE⟩ : ∃ E, errN (k : Int) L = E := ⟨_, rfl⟩
    rw [Int.toNat_natCast, hE]
    rw [errN_take k hk1 hk8] at hE
    have HE := hide hE
    have HF := hide (fun z (hz : z ≤ 9223372036854775807) W => rfits_any z k hz hk8 W)
    have HLB := hide hLb
    have HL := hide hL
    have HPB := hide hpb
    clear h hL hLb hw hpb hE
    have d1 : decide ((k : Int) < 1) = false := decide_eq_false (by omega)
    have d2 : decide (8 < (k : Int)) = false := decide_eq_false (by omega)
    go_enter Try.func20, Try.ntmps20
    go_wp2
    clear d1 d2
    go_loopw [6, 7] (fun i _ wr => ∃ j : Nat, j ≤ L.length ∧ i = .int .i64 (j : Int) ∧ (∀ m, m < j → fitsP (L.getD m 0) k) ∧ Below w.heap.size w wr) (fun i _ _ => L.length - (intOf i).toNat)
    case atStart => exact ⟨0, by omega, rfl, fun m hm => by omega, Below.refl _ _⟩
    case round =>
      obtain ⟨j, hj, rfl, hfit, hBe⟩ := hrel
      obtain ⟨wo, rfl⟩ : ∃ wo, wo = wr := ⟨_, rfl⟩
      have XB := hide hBe
      have XF := hide hfit
      clear hBe hfit
      have i0 : 0 ≤ (j : Int) := by omega
      by_cases hjl : j < L.length
      · obtain ⟨lb, lo, rfl, hlb, hc0⟩ : ∃ lb lo, p = some ⟨lb, lo, none⟩ ∧ lb < w.heap.size ∧ w.cell? ⟨lb, lo + j, none⟩ = some (.int .i64 (L.getD j 0)) := by
          rcases unhide HL with q | ⟨lb, lo, e1, e2, e3⟩
          · rw [q] at hjl; cases hjl
          · exact ⟨lb, lo, e1, e2, e3 j hjl⟩
        have hc : wo.cell? ⟨lb, lo + j, none⟩ = some (.int .i64 (L.getD j 0)) := ((unhide XB).cell (p := ⟨lb, lo + j, none⟩) hlb).trans hc0
        have HFJ := hide (unhide HF (L.getD j 0) (unhide HLB _ (mem_getD L j hjl)))
        have HJ := hide (show fitsP (L.getD j 0) k ∨ ¬ fitsP (L.getD j 0) k from Classical.em _)
        have HM := hide (show ¬ fitsP (L.getD j 0) k → ¬ ∀ n ∈ L, fitsP n k from fun q q' => q (q' _ (mem_getD L j hjl)))
        have HS := hide (show fitsP (L.getD j 0) k → ∀ m, m < j + 1 → fitsP (L.getD m 0) k from fun q m hm => by
          by_cases hmj : m = j
          · subst hmj; exact q
          · exact unhide XF m (by omega))
        have i1 : (j : Int) < (L.length : Int) := by omega
        clear hc0
        generalize L.getD j 0 = z at *
        by_cases hz : fitsP z k
        · rw [decide_eq_true hz] at HFJ
          go_wp2_with (first | (go_at_call 36; refine (unhide HFJ _).mono ?_; rintro ev x1 ⟨rfl, rfl⟩))
          go_roundw
          case rel => exact ⟨j + 1, by omega, by go_num, unhide HS hz, unhide XB⟩
          case measure => simp [intOf]; omega
        · rw [decide_eq_false hz] at HFJ
          have e30 : E = 30 := by rw [← unhide HE, if_neg (unhide HM hz)]
          have H30 := hide e30
          clear e30
          have HWo := hide (show Rwt wo b S e from (unhide HW).below (unhide XB) (unhide HW).lt)
          have HO := hide (show Only (fun k => k = b) w wo from Only.of_below (unhide XB))
          clear HW XB
          go_wp2_with (first | (go_at_call 36; refine (unhide HFJ _).mono ?_; rintro ev x1 ⟨rfl, rfl⟩) | (go_at_call 35; refine (unhide HK _ _ (unhide HWo)).mono ?_; rintro ev x2 ⟨rfl, hx, hO⟩; have HX := hide (And.intro hx ((unhide HO).trans hO (fun _ _ q => q))); clear hx hO))
          (try simp only [Exit.inBlock, Exit.then])
          exact bodyPost_ret (results_none rfl _ _ _) rfl ⟨rfl, by rw [unhide H30, sw, if_neg (by decide)]; exact (unhide HX).1, (unhide HX).2⟩
      · obtain rfl : j = L.length := by omega
        have hall : ∀ n ∈ L, fitsP n k := fun n hn => by
          obtain ⟨m, hm, e⟩ := List.getElem_of_mem hn
          have := unhide XF m hm
          rw [List.getD_eq_getElem?_getD, List.getElem?_eq_getElem hm, e] at this
          exact this
        have e0 : E = 0 := by rw [← unhide HE, if_pos hall]
        have H0 := hide e0
        have HA := hide hall
        have HWo := hide (show Rwt wo b (S ++ strOfNums (outN k (L.take 0))) e ∧ Only (fun k => k = b) w wo from ⟨by
          rw [List.take_zero, show strOfNums (outN k []) = ByteArray.empty from rfl, ByteArray.append_empty]
          exact (unhide HW).below (unhide XB) (unhide HW).lt, Only.of_below (unhide XB)⟩)
        clear e0 hall HW XB XF HF HK HE i0 hj hjl
        go_wp2
        go_loopw [8] (fun i wr => ∃ j : Nat, j ≤ L.length ∧ i = .int .i64 (j : Int) ∧ Rwt wr b (S ++ strOfNums (outN k (L.take j))) e ∧ Only (fun k => k = b) w wr) (fun i _ => L.length - (intOf i).toNat)
        case atStart => exact ⟨0, by omega, rfl, unhide HWo⟩
        case round =>
          obtain ⟨j, hj, rfl, hr, hO⟩ := hrel
          obtain ⟨wq, rfl⟩ : ∃ wq, wq = wr := ⟨_, rfl⟩
          have HR := hide hr
          have HO := hide hO
          clear hr hO HWo
          have i0 : 0 ≤ (j : Int) := by omega
          by_cases hjl : j < L.length
          · obtain ⟨lb, lo, rfl, hlb, hc0⟩ : ∃ lb lo, p = some ⟨lb, lo, none⟩ ∧ lb < w.heap.size ∧ w.cell? ⟨lb, lo + j, none⟩ = some (.int .i64 (L.getD j 0)) := by
              rcases unhide HL with q | ⟨lb, lo, e1, e2, e3⟩
              · rw [q] at hjl; cases hjl
              · exact ⟨lb, lo, e1, e2, e3 j hjl⟩
            have hne : lb ≠ b := fun q => unhide HPB (by omega) lo (by rw [q])
            have hc : wq.cell? ⟨lb, lo + j, none⟩ = some (.int .i64 (L.getD j 0)) := (World.cell?_of_block (a := ⟨lb, lo + j, none⟩) ((unhide HO).2 lb hlb hne)).trans hc0
            have hft := unhide HA _ (mem_getD L j hjl)
            obtain ⟨N, hN⟩ := Int.eq_ofNat_of_zero_le hft.1
            have hNb := unhide HLB _ (mem_getD L j hjl)
            have HS := hide (show S ++ strOfNums (outN k (L.take j)) ++ strOfNums (numB (N : Int) k) = S ++ strOfNums (outN k (L.take (j + 1))) by
              rw [outN_snoc k L j hjl, hN, strOfNums_app, ByteArray.append_assoc])
            have hsz : (S ++ strOfNums (outN k (L.take j))).size ≤ 1000000000000000 + 8 * 1000000000 := by
              rw [ByteArray.size_append, strOfNums_size, outN_len, List.length_take]
              have : k * min j L.length ≤ 8 * 1000000000 := Nat.mul_le_mul hk8 (by omega)
              omega
            rw [hN] at hc hNb
            have HB := hide (fun W => rbytes_any N k (by omega) hk8 W)
            obtain ⟨D, hD⟩ : ∃ D, strOfNums (numB (N : Int) k) = D := ⟨_, rfl⟩
            have hDs : D.size ≤ 8 := by rw [← hD, strOfNums_size, numB_len]; exact hk8
            rw [hD] at HB HS
            obtain ⟨T, hT⟩ : ∃ T, S ++ strOfNums (outN k (L.take j)) = T := ⟨_, rfl⟩
            rw [hT] at HS HR hsz
            have c0 : wq.cell? ⟨b, 0, none⟩ = some (.string T) := by rw [(unhide HR).cell 0]; rfl
            have y1 : ¬ 9223372036854775807 < T.size + D.size := by omega
            have i1 : (j : Int) < (L.length : Int) := by omega
            clear hc0 hft hN hD hT hne
            go_wp2
            go_region_with (go_at_call 37; refine (unhide HB _).mono ?_; rintro ev x1 ⟨rfl, hB⟩; obtain ⟨c1, f1, hx, hO⟩ := (unhide HR).cells hB; have HX := hide (And.intro hx hO); clear hx hO hB)
            all_goals
              go_wp2
              go_roundw
              case rel => exact ⟨j + 1, by omega, by go_num, by rw [← unhide HS]; exact (unhide HX).1.set 0 _, ((unhide HO).trans (unhide HX).2 (fun _ _ q => q)).setCell _ _ (fun _ => rfl)⟩
              case measure => simp [intOf]; omega
          · obtain rfl : j = L.length := by omega
            go_wp2
            go_end0
            refine ⟨rfl, ?_, unhide HO⟩
            have := unhide HR
            rw [List.take_length] at this
            rw [unhide H0, sw, if_pos rfl, we_ok]
            exact this
  · obtain ⟨E, hE⟩ : ∃ E, errN bytes L = E := ⟨_, rfl⟩
    rw [hE]
    rw [errN, if_pos (by omega)] at hE
    have H1 := hide hE.symm
    clear h hL hLb hpb hE
    by_cases h1 : bytes < 1
    · have d1 : decide (bytes < 1) = true := decide_eq_true h1
      go_enter Try.func20, Try.ntmps20
      go_wp2_with (first | (go_at_call 35; refine (unhide HK _ _ (unhide HW)).mono ?_; rintro ev x2 ⟨rfl, hx, hO⟩; have HX := hide (And.intro hx hO); clear hx hO))
      (try simp only [Exit.inBlock, Exit.then])
      exact bodyPost_ret (results_none rfl _ _ _) rfl ⟨rfl, by rw [unhide H1, sw, if_neg (by decide)]; exact (unhide HX).1, (unhide HX).2⟩
    · have d1 : decide (bytes < 1) = false := decide_eq_false h1
      have d2 : decide (8 < bytes) = true := decide_eq_true (by omega)
      go_enter Try.func20, Try.ntmps20
      go_wp2_with (first | (go_at_call 35; refine (unhide HK _ _ (unhide HW)).mono ?_; rintro ev x2 ⟨rfl, hx, hO⟩; have HX := hide (And.intro hx hO); clear hx hO))
      (try simp only [Exit.inBlock, Exit.then])
      exact bodyPost_ret (results_none rfl _ _ _) rfl ⟨rfl, by rw [unhide H1, sw, if_neg (by decide)]; exact (unhide HX).1, (unhide HX).2⟩
end Go.Proofs.Ytkmgbicacbalfaa
