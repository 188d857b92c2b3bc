import Derived.Test.YtkmgbicacbalfabDoorWrm
import Derived.BigQuiet
namespace Go.Proofs.YtkmgbicacbalfabDoor
open Go.RowKit
theorem Arr.of_owns {w : World} {base g cap n : Nat} {l : List Int} (h : w.ownsRow base 5 1 (.slice (some ⟨g, 0, none⟩) n cap) l.length (l.map (Value.int .u8))) : Arr w g 0 .u8 l := by
  intro j hj
  rcases h.2 with ⟨h1, _⟩ | ⟨g', cap', cur, h1, _, hh, hn, _, hs, hx⟩
  · cases h1
  · obtain ⟨rfl, rfl, rfl⟩ : g = g' ∧ n = l.length ∧ cap = cap' := by simpa using h1
    rw [Nat.mul_one] at hs hx
    rw [Nat.zero_add, cell_of_row w g j cur 5 (0, 0) hh]
    refine ⟨?_, by simp [World.frozen?, hh]⟩
    have e : cur.toList[j]? = (l.map (Value.int .u8))[j]? := by rw [← hx, List.getElem?_take, if_pos hj]
    rw [← Array.getElem?_toList, e]
    simp [hj]
set_option maxRecDepth 100000 in
set_option maxHeartbeats 1000000 in
theorem done_any (w : World) (base b : Nat) (v : Value) (l : List Int) (e : Int) (h : Wtr w base b v l e) :
    Calls Tryd.prog 15 #[.pointer (some ⟨b, 0, none⟩)] w fun ev w' => ev = .returned (.tuple #[.string (strOfNums l), .int .i64 e]) ∧ Below w.heap.size w w' := by
  have hcv : ∃ p cap, v = .slice p l.length cap ∧ (convert 51 9 (.slice p l.length cap)).run Tryd.prog w.drew = .ok (.string (strOfNums l)) w.drew := by
    rcases h.2.1.2 with ⟨h1, h2⟩ | ⟨g, cap, cur, h1, _, hh, hn, _, hs, hx⟩
    · obtain rfl : l = [] := List.eq_nil_of_length_eq_zero h2
      exact ⟨none, 0, h1, run_convert_bytes_nil (P := Tryd.prog) w.drew 51 5 Tryd.underlying51 Tryd.underlying5 0 0 9 Tryd.underlying9⟩
    · subst h1
      have hA : Arr w g 0 .u8 l := Arr.of_owns h.2.1
      exact ⟨some ⟨g, 0, none⟩, cap, rfl, run_convert_bytes_arg (P := Tryd.prog) w.drew 51 5 Tryd.underlying51 Tryd.underlying5 g 0 l.length cap l rfl (fun i hi => hA.get i hi) 9 Tryd.underlying9⟩
  obtain ⟨p, cap, rfl, hcv⟩ := hcv
  have c0 : w.cell? ⟨b, 0, none⟩ = some (.slice p l.length cap) := by rw [h.1.cell 0]; rfl
  have c1 : w.cell? ⟨b, 1, none⟩ = some (.int .i64 e) := by rw [h.1.cell 1]; rfl
  clear h
  generalize strOfNums l = S at *
  go_enter Tryd.func15, Tryd.ntmps15
  go_wp2
  go_region
  all_goals (try go_wp2)
  all_goals (go_ret2; exact ⟨rfl, (Below.refl _ _).drew⟩)
def errX (most : Int) (n : Nat) : Int := if most < 0 then 1 else if most < (n : Int) then 32 else 0
set_option maxRecDepth 100000 in
set_option maxHeartbeats 1000000 in
theorem text_any (w : World) (base b : Nat) (v : Value) (l : List Int) (e : Int) (h : Wtr w base b v l e) (hb : base ≤ w.heap.size) (s : ByteArray) (most : Int) (hsz : l.length + 9 + s.size ≤ 140737488355328) :
    Calls Tryd.prog 14 #[.pointer (some ⟨b, 0, none⟩), .string s, .int .i64 most] w fun ev w' => ev = .returned (.tuple #[]) ∧ WPost base b v (wl l e (errX most s.size) (digN s.size ++ nums s)) (we e (errX most s.size)) w w' := by
  by_cases h0 : most < 0
  · have HR := hide (refuseW w base b v l e h 1 (by decide) (digN s.size ++ nums s))
    rw [errX, if_pos h0]
    generalize wl l e 1 (digN s.size ++ nums s) = X at *
    generalize we e 1 = Y at *
    clear h
    go_enter Tryd.func14, Tryd.ntmps14
    go_wp2_with (go_at_call 33; refine (unhide HR).mono ?_; rintro ev w2 ⟨rfl, hP3⟩; have HP3 := hide hP3; clear hP3)
    (try simp only [Exit.inBlock, Exit.then])
    exact bodyPost_ret (results_none rfl _ _ _) rfl ⟨rfl, unhide HP3⟩
  · by_cases h1 : most < (s.size : Int)
    · have HR := hide (refuseW w base b v l e h 32 (by decide) (digN s.size ++ nums s))
      rw [errX, if_neg h0, if_pos h1]
      generalize wl l e 32 (digN s.size ++ nums s) = X at *
      generalize we e 32 = Y at *
      clear h
      go_enter Tryd.func14, Tryd.ntmps14
      go_wp2_with (go_at_call 33; refine (unhide HR).mono ?_; rintro ev w2 ⟨rfl, hP3⟩; have HP3 := hide hP3; clear hP3)
      (try simp only [Exit.inBlock, Exit.then])
      exact bodyPost_ret (results_none rfl _ _ _) rfl ⟨rfl, unhide HP3⟩
    · rw [errX, if_neg h0, if_neg h1, we_ok]
      have hV := var_any w base b v l e h hb (s.size : Int) (by omega) (by omega)
      rw [if_neg (by omega), Int.toNat_natCast, we_ok] at hV
      have hd := (digN_nine s.size (by omega)).2
      have HV := hide hV
      have HX := hide (wl_two l e (digN s.size) (nums s))
      have hwl := wl_len l e (digN s.size)
      have hlen : (wl l e 0 (digN s.size)).length + s.size ≤ 140737488355328 := by omega
      clear h hV hwl
      generalize wl l e 0 (digN s.size ++ nums s) = X at *
      generalize wl l e 0 (digN s.size) = Y at *
      have hle : ¬ (s.size : Int) > most := by omega
      go_enter Tryd.func14, Tryd.ntmps14
      go_wp2_with fail
      refine (unhide HV).mono ?_
      rintro ev w2 ⟨rfl, v2, hW2, hO2, hv2⟩
      have HR := hide (raw_any w2 base b v2 Y e hW2 (Nat.le_trans hb hO2.size) s hlen)
      have HO2 := hide hO2
      have Hv2 := hide hv2
      clear hW2 hO2 hv2
      go_wp2_with fail
      refine (unhide HR).mono ?_
      rintro ev w3 ⟨rfl, hP3⟩
      have HP3 := hide hP3
      clear hP3
      go_wp2
      go_end0
      refine ⟨rfl, ?_⟩
      rw [← unhide HX]
      exact WPost.trans (unhide HO2) (unhide Hv2) (unhide HP3)
end Go.Proofs.YtkmgbicacbalfabDoor
