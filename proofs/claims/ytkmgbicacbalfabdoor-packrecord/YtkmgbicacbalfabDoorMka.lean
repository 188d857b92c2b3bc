import Derived.Test.YtkmgbicacbalfabDoorMkp
namespace Go.Proofs.YtkmgbicacbalfabDoor
open Go.RowKit
set_option maxRecDepth 100000 in
set_option maxHeartbeats 2000000 in
/-- MakePage of any page. -/
theorem make_any (hRep : RepOk) (kind number : Int) (body : ByteArray) (w : World) :
    Calls Tryd.prog 28 #[.agg #[.int .i64 kind, .int .i64 number, .string body]] w fun e w' => e = .returned (.tuple #[.string (makeB kind number body), .int .i64 (errM kind number body.size)]) ∧ Below w.heap.size w w' := by
  by_cases hk : fitsP kind 1
  · by_cases hn : fitsP number 4
    · by_cases hb : body.size ≤ 244
      · have hE : errM kind number body.size = 0 := by rw [errM, if_neg (by simp [hk, hn]), if_neg (by omega)]
        rw [makeB, if_pos hE, hE]
        exact make_ok hRep kind number body hk hn hb w
      · have hE : errM kind number body.size = 32 := by rw [errM, if_neg (by simp [hk, hn]), if_pos (by omega)]
        rw [makeB, if_neg (by rw [hE]; decide), hE]
        have HF1 := hide (fun W => fits_any kind 1 (by decide) W)
        rw [decide_eq_true hk] at HF1
        have HF4 := hide (fun W => fits_any number 4 (by decide) W)
        rw [decide_eq_true hn] at HF4
        have hb' : 244 < body.size := by omega
        clear hk hn hRep hE
        go_enter Tryd.func28, Tryd.ntmps28
        go_wp2_with fail
        refine (unhide HF1 _).mono ?_
        rintro ev wa ⟨rfl, rfl⟩
        go_wp2_with fail
        refine (unhide HF4 _).mono ?_
        rintro ev wb ⟨rfl, rfl⟩
        go_wp2
        go_ret2
        exact ⟨rfl, (Below.refl _ w).alloc (Nat.le_refl _) _⟩
    · have hE : errM kind number body.size = 1 := by rw [errM, if_pos (.inr hn)]
      rw [makeB, if_neg (by rw [hE]; decide), hE]
      have HF1 := hide (fun W => fits_any kind 1 (by decide) W)
      rw [decide_eq_true hk] at HF1
      have HF4 := hide (fun W => fits_any number 4 (by decide) W)
      rw [decide_eq_false hn] at HF4
      clear hk hn hRep hE
      go_enter Tryd.func28, Tryd.ntmps28
      go_wp2_with fail
      refine (unhide HF1 _).mono ?_
      rintro ev wa ⟨rfl, rfl⟩
      go_wp2_with fail
      refine (unhide HF4 _).mono ?_
      rintro ev wb ⟨rfl, rfl⟩
      go_wp2
      go_ret2
      exact ⟨rfl, (Below.refl _ w).alloc (Nat.le_refl _) _⟩
  · have hE : errM kind number body.size = 1 := by rw [errM, if_pos (.inl hk)]
    rw [makeB, if_neg (by rw [hE]; decide), hE]
    have HF1 := hide (fun W => fits_any kind 1 (by decide) W)
    rw [decide_eq_false hk] at HF1
    clear hk hRep hE
    go_enter Tryd.func28, Tryd.ntmps28
    go_wp2_with fail
    refine (unhide HF1 _).mono ?_
    rintro ev wa ⟨rfl, rfl⟩
    go_wp2
    go_ret2
    exact ⟨rfl, (Below.refl _ w).alloc (Nat.le_refl _) _⟩
end Go.Proofs.YtkmgbicacbalfabDoor
