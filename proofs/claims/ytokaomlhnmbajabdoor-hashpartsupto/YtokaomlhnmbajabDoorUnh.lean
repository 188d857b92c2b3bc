import Derived.Test.YtokaomlhnmbajabDoorSgn
import Derived.Test.YtokaomlhnmbajabDoorHex
namespace Go.Proofs.YtokaomlhnmbajabDoor
open Go.RowKit
def okHex (l : List Int) : Prop := l.length % 2 = 0 ∧ ∀ j, j < l.length → 0 ≤ sgn (l.getD j 0)
def vald (l : List Int) (j : Nat) : Int := 16 * sgn (l.getD (2 * j) 0) + sgn (l.getD (2 * j + 1) 0)
def decd (l : List Int) (k : Nat) : List Int := (List.range k).map (vald l)
theorem decd_len (l : List Int) (k : Nat) : (decd l k).length = k := by simp [decd]
theorem decd_succ (l : List Int) (k : Nat) : decd l (k + 1) = decd l k ++ [vald l k] := by simp [decd, List.range_succ]
theorem or_nib (a b : Int) (h0 : 0 ≤ a) (h1 : a ≤ 15) (h2 : 0 ≤ b) (h3 : b ≤ 15) (y : Int) (hy : y = a * 16) : bits .or .u8 y b = 16 * a + b := by
  subst hy
  obtain ⟨A, rfl⟩ := Int.eq_ofNat_of_zero_le h0
  obtain ⟨B, rfl⟩ := Int.eq_ofNat_of_zero_le h2
  have := u8_or_nat (A * 16) B (by omega) (by omega)
  rw [show (((A * 16 : Nat)) : Int) = (A : Int) * 16 by omega] at this
  rw [this]
  have e : A * 16 ||| B = A * 16 + B := by
    have := Nat.shiftLeft_add_eq_or_of_lt (i := 4) (b := B) (by omega) A
    rw [Nat.shiftLeft_eq, show (2 : Nat) ^ 4 = 16 from rfl] at this; exact this.symm
  rw [e]; omega
theorem unh_put {w : World} {A : List Int} {c k : Nat} {wr : World} (h : KeyInv w (A ++ List.replicate (c - k) 0) wr) (hA : A.length = k) (hr : k < c) (a : Int) :
    KeyInv w (A ++ [a] ++ List.replicate (c - (k + 1)) 0) ((wr.setCell ⟨w.heap.size, k, none⟩ (.int .u8 a)).alloc (Obj.cells #[.int .u8 a] 5)) := by
  have h1 := h.put k (by simp [hA]; omega) a rfl
  have e := fill_set A c a (by omega)
  rw [hA] at e
  rw [e] at h1
  exact ⟨h1.1.alloc h1.2.2 _, h1.2.1.alloc (Nat.le_of_lt h1.2.2) _, by simp; have := h.2.2; omega⟩
set_option maxRecDepth 100000 in
set_option maxHeartbeats 400000 in
theorem unhex_any (t : ByteArray) (ht : t.size ≤ 281474976710656) (w : World) :
    Calls Tryd.prog 18 #[.string t] w fun e w' => ((okHex (nums t) ∧ e = .returned (.tuple #[.string (strOfNums (decd (nums t) (t.size / 2))), .int .i64 0])) ∨ (¬ okHex (nums t) ∧ e = .returned (.tuple #[.string ⟨#[]⟩, .int .i64 11]))) ∧ Below w.heap.size w w' := by
  by_cases hodd : t.size % 2 = 0
  · have hmk := fun W => run_make_u8 0 (t.size / 2) (by omega) (by omega) W
    have e0 : (((t.size / 2 : Nat)) : Int) = (t.size : Int) / 2 := by omega
    simp only [e0, Int.cast_ofNat_Int] at hmk
    have hne : ((t.size : Int) % 2 != 0) = false := by simp; omega
    go_enter Tryd.func18, Tryd.ntmps18
    go_wp2
    clear hmk
    go_loopw [4, 5] (fun v i wr => ∃ k : Nat, 2 * k ≤ t.size ∧ i = .int .i64 ((2 * k : Nat) : Int) ∧ v = .slice (some ⟨w.heap.size, 0, none⟩) k (t.size / 2) ∧ KeyInv w (decd (nums t) k ++ List.replicate (t.size / 2 - k) 0) wr ∧ ∀ j, j < 2 * k → 0 ≤ sgn ((nums t).getD j 0)) (fun _ i _ => t.size - (intOf i).toNat)
    case atStart => exact ⟨0, by omega, rfl, rfl, by
      have h : KeyInv w (List.replicate (t.size / 2) 0) (w.alloc (Obj.cells (Array.replicate (t.size / 2) (Value.int .u8 0)) 5)) := ⟨arr_new w .u8 (List.replicate (t.size / 2) 0) 5 _ (by simp), (Below.refl _ _).alloc (Nat.le_refl _) _, by simp⟩
      simpa [decd] using h, fun j hj => by omega⟩
    case round =>
      obtain ⟨k, hk, rfl, rfl, hI, hval⟩ := hrel
      by_cases hlt : 2 * k < t.size
      · have hi1 := index_str t (2 * k) (by omega)
        have hi2 := index_str t (2 * k + 1) (by omega)
        obtain ⟨x1, hx1⟩ : ∃ x, x = (nums t).getD (2 * k) 0 := ⟨_, rfl⟩
        obtain ⟨x2, hx2⟩ : ∃ x, x = (nums t).getD (2 * k + 1) 0 := ⟨_, rfl⟩
        rw [← hx1] at hi1
        rw [← hx2] at hi2
        have ec : (((2 * k + 1 : Nat)) : Int) = 2 * (k : Int) + 1 := by omega
        have ec2 : (((2 * k : Nat)) : Int) = 2 * (k : Int) := by omega
        simp only [ec, ec2] at hi1 hi2
        clear ec ec2
        have hs1 := sgn_bd x1
        have hs2 := sgn_bd x2
        have HNB : sgn x1 = -1 ∨ sgn x2 = -1 → ¬ okHex (nums t) := by
          intro h hok
          have a1 := hok.2 (2 * k) (by rw [nums_len]; omega)
          have a2 := hok.2 (2 * k + 1) (by rw [nums_len]; omega)
          rw [← hx1] at a1
          rw [← hx2] at a2
          omega
        by_cases g1 : 0 ≤ sgn x1
        · by_cases g2 : 0 ≤ sgn x2
          · have hlen : (decd (nums t) k ++ List.replicate (t.size / 2 - k) (0 : Int)).length = t.size / 2 := by rw [List.length_append, decd_len, List.length_replicate]; omega
            have hroom : k + 1 ≤ t.size / 2 := by omega
            have c1 := hI.1.get0 k (by omega)
            have f1 := hI.1.free0 k (by omega)
            obtain ⟨y1, hy1⟩ : ∃ y, y = (decd (nums t) k ++ List.replicate (t.size / 2 - k) (0 : Int)).getD k 0 := ⟨_, rfl⟩
            rw [← hy1] at c1
            have hBs := hI.2.2
            have HD := hide (decd_succ (nums t) k)
            rw [show vald (nums t) k = 16 * sgn x1 + sgn x2 by rw [vald, ← hx1, ← hx2]] at HD
            have HI := hide hI
            have HV := hide (show ∀ j, j < 2 * (k + 1) → 0 ≤ sgn ((nums t).getD j 0) by
              intro j hj
              rcases (show j < 2 * k ∨ j = 2 * k ∨ j = 2 * k + 1 by omega) with h | h | h
              · exact hval j h
              · rw [h, ← hx1]; exact g1
              · rw [h, ← hx2]; exact g2)
            have s1 := hide (sign_ok x1 g1)
            have s2 := hide (sign_ok x2 g2)
            clear hI hval hx1 hx2 hy1 hlen HNB
            generalize sgn x1 = v1 at *
            generalize sgn x2 = v2 at *
            go_wp2_with fail
            refine (unhide s1 _).mono ?_
            rintro e w' ⟨rfl, rfl⟩
            go_wp2_with fail
            refine (unhide s2 _).mono ?_
            rintro e w' ⟨rfl, rfl⟩
            go_wp2
            go_roundw
            case rel => exact ⟨k + 1, by omega, congrArg (Value.int .i64) (by omega), rfl, by rw [unhide HD, or_nib v1 v2 g1 (by omega) g2 (by omega) _ rfl]; exact unh_put (unhide HI) (decd_len _ _) (by omega) _, unhide HV⟩
            case measure => simp [intOf]; omega
          · have HNO := hide (HNB (by omega))
            have HB := hide hI.2.1
            have s1 := hide (sign_ok x1 g1)
            have s2 := hide (sign_none x2 (by omega))
            clear hI hval hx1 hx2 HNB
            generalize sgn x1 = v1 at *
            go_wp2_with fail
            refine (unhide s1 _).mono ?_
            rintro e w' ⟨rfl, rfl⟩
            go_wp2_with fail
            refine (unhide s2 _).mono ?_
            rintro e w' ⟨rfl, rfl⟩
            go_wp2
            go_ret2
            exact ⟨.inr ⟨unhide HNO, rfl⟩, unhide HB⟩
        · have HNO := hide (HNB (by omega))
          have HB := hide hI.2.1
          have s1 := hide (sign_none x1 (by omega))
          by_cases g2 : 0 ≤ sgn x2
          · have s2 := hide (sign_ok x2 g2)
            clear hI hval hx1 hx2 HNB
            generalize sgn x2 = v2 at *
            go_wp2_with fail
            refine (unhide s1 _).mono ?_
            rintro e w' ⟨rfl, rfl⟩
            go_wp2_with fail
            refine (unhide s2 _).mono ?_
            rintro e w' ⟨rfl, rfl⟩
            go_wp2
            go_ret2
            exact ⟨.inr ⟨unhide HNO, rfl⟩, unhide HB⟩
          · have s2 := hide (sign_none x2 (by omega))
            clear hI hval hx1 hx2 HNB
            go_wp2_with fail
            refine (unhide s1 _).mono ?_
            rintro e w' ⟨rfl, rfl⟩
            go_wp2_with fail
            refine (unhide s2 _).mono ?_
            rintro e w' ⟨rfl, rfl⟩
            go_wp2
            go_ret2
            exact ⟨.inr ⟨unhide HNO, rfl⟩, unhide HB⟩
      · have ek : 2 * k = t.size := by omega
        have hok : okHex (nums t) := ⟨by rw [nums_len]; exact hodd, fun j hj => hval j (by rw [nums_len] at hj; omega)⟩
        have ek2 : t.size / 2 = k := by omega
        rw [ek2, Nat.sub_self, List.replicate_zero, List.append_nil] at hI
        have hcv := run_convert_bytes_arg (P := Tryd.prog) wr 47 5 Tryd.underlying47 Tryd.underlying5 w.heap.size 0 k (t.size / 2) (decd (nums t) k) (decd_len _ _) (fun i hi => hI.1.get i (by rw [decd_len]; exact hi)) 9 Tryd.underlying9
        have HB := hide hI.2.1
        have HOK := hide hok
        have HE := hide ek2
        clear hI hok ek hval ek2
        go_wp2
        go_ret2
        exact ⟨.inl ⟨unhide HOK, by rw [unhide HE]; rfl⟩, unhide HB⟩
  · have hne : ((t.size : Int) % 2 != 0) = true := by simp; omega
    have hno : ¬ okHex (nums t) := fun h => hodd (by rw [← nums_len]; exact h.1)
    go_enter Tryd.func18, Tryd.ntmps18
    go_wp2
    go_ret2
    exact ⟨.inr ⟨hno, rfl⟩, Below.refl _ _⟩
end Go.Proofs.YtokaomlhnmbajabDoor
