import Derived.Test.YtkileaocgecckabDoorQmn
import Derived.Test.YtkileaocgecckabDoorQra
namespace Go.Proofs.YtkileaocgecckabDoor
open Go.RowKit
set_option maxRecDepth 100000
/-- how many elements the proof of growth has -/
def lg (m n : Nat) (w : Bool) : Nat :=
  if _h : n < 2 ∨ m = n then (if w then 0 else 1)
  else if m ≤ kk n then lg m (kk n) w + 1 else lg (m - kk n) (n - kk n) false + 1
termination_by n
decreasing_by
  · have := kk_lt n (by omega); omega
  · have := kk_pos n; omega
theorem lg_all (m : Nat) (w : Bool) : lg m m w = if w then 0 else 1 := by rw [lg, dif_pos (.inr rfl)]
theorem lg_left (m n : Nat) (w : Bool) (h : 2 ≤ n) (hm : m ≠ n) (hk : m ≤ kk n) : lg m n w = lg m (kk n) w + 1 := by rw [lg, dif_neg (by omega), if_pos hk]
theorem lg_right (m n : Nat) (w : Bool) (h : 2 ≤ n) (hm : m ≠ n) (hk : ¬ m ≤ kk n) : lg m n w = lg (m - kk n) (n - kk n) false + 1 := by rw [lg, dif_neg (by omega), if_neg hk]
theorem lg_le : ∀ (n m : Nat) (w : Bool), 1 ≤ m → m ≤ n → lg m n w ≤ n := by
  intro n
  induction n using Nat.strongRecOn with
  | _ n ih =>
  intro m w h1 h2
  by_cases e : m = n
  · subst e
    rw [lg_all]
    split <;> omega
  · have k1 := kk_pos n
    have k2 := kk_lt n (by omega)
    by_cases hk : m ≤ kk n
    · have := ih (kk n) k2 m w h1 hk
      rw [lg_left m n w (by omega) e hk]
      omega
    · have := ih (n - kk n) (by omega) (m - kk n) false (by omega) (by omega)
      rw [lg_right m n w (by omega) e hk]
      omega
/-- a proof comes to something just if it has so many elements of 32 bytes -/
theorem cm_fmd : ∀ (n m : Nat) (w : Bool) (o : ByteArray) (P : List ByteArray), 1 ≤ m → m ≤ n → (Fmd P (lg m n w) → ∃ x, cm m n w o P = some x) ∧ (¬ Fmd P (lg m n w) → cm m n w o P = none) := by
  intro n
  induction n using Nat.strongRecOn with
  | _ n ih =>
  intro m w o P h1 h2
  have nilF : Fmd [] 0 := ⟨rfl, fun j hj => absurd hj (by simp)⟩
  by_cases e : m = n
  · subst e
    rw [lg_all]
    cases w with
    | true =>
      rw [if_pos rfl]
      refine ⟨fun hf => ?_, fun hf => ?_⟩
      · obtain rfl : P = [] := List.eq_nil_of_length_eq_zero hf.1
        exact ⟨_, cm_known m o⟩
      · exact cm_known_no m o P (fun e => hf (by rw [e]; exact nilF))
    | false =>
      rw [if_neg (by simp)]
      by_cases hP : P = []
      · subst hP
        exact ⟨fun hf => absurd hf (fmd_nil 0), fun _ => cm_nil m m false o (by simp) (fun _ => rfl)⟩
      · obtain ⟨Q, b, rfl⟩ := list_last P hP
        rw [fmd_snoc]
        refine ⟨fun ⟨hf, hb⟩ => ?_, fun hf => ?_⟩
        · obtain rfl : Q = [] := List.eq_nil_of_length_eq_zero hf.1
          exact ⟨_, cm_one m o b hb⟩
        · by_cases hb : b.size = 32
          · exact cm_one_no m o b Q hb (fun e => hf ⟨by rw [e]; exact nilF, hb⟩)
          · exact cm_bad m m false o Q b (by simp) (fun _ => rfl) hb
  · have k1 := kk_pos n
    have k2 := kk_lt n (by omega)
    have hAn : ¬ (w = true ∧ m = n) := fun q => e q.2
    by_cases hP : P = []
    · subst hP
      have : ∃ k, lg m n w = k + 1 := by
        by_cases hk : m ≤ kk n
        · exact ⟨_, lg_left m n w (by omega) e hk⟩
        · exact ⟨_, lg_right m n w (by omega) e hk⟩
      obtain ⟨k, hk⟩ := this
      rw [hk]
      exact ⟨fun hf => absurd hf (fmd_nil k), fun _ => cm_nil m n w o hAn (fun _ => by omega)⟩
    · obtain ⟨Q, b, rfl⟩ := list_last P hP
      by_cases hk : m ≤ kk n
      · obtain ⟨i1, i2⟩ := ih (kk n) k2 m w o Q h1 hk
        rw [lg_left m n w (by omega) e hk, fmd_snoc]
        refine ⟨fun ⟨hf, hb⟩ => ?_, fun hf => ?_⟩
        · obtain ⟨x, hx⟩ := i1 hf
          exact ⟨_, by rw [cm_left m n w o Q b (by omega) e hb hk, hx]; rfl⟩
        · by_cases hb : b.size = 32
          · rw [cm_left m n w o Q b (by omega) e hb hk, i2 (fun q => hf ⟨q, hb⟩)]; rfl
          · exact cm_bad m n w o Q b hAn (fun _ => by omega) hb
      · obtain ⟨i1, i2⟩ := ih (n - kk n) (by omega) (m - kk n) false o Q (by omega) (by omega)
        rw [lg_right m n w (by omega) e hk, fmd_snoc]
        refine ⟨fun ⟨hf, hb⟩ => ?_, fun hf => ?_⟩
        · obtain ⟨x, hx⟩ := i1 hf
          exact ⟨_, by rw [cm_right m n w o Q b (by omega) e hb hk, hx]; rfl⟩
        · by_cases hb : b.size = 32
          · rw [cm_right m n w o Q b (by omega) e hb hk, i2 (fun q => hf ⟨q, hb⟩)]; rfl
          · exact cm_bad m n w o Q b hAn (fun _ => by omega) hb
set_option maxHeartbeats 1000000 in
theorem rlong_any : ∀ (n m : Nat) (kn : Bool) (w : World), 1 ≤ m → m ≤ n → n ≤ 65536 → Calls Tryd.prog 33 #[.int .i64 (m : Int), .int .i64 (n : Int), .bool kn] w fun e w' => e = .returned (.int .i64 (lg m n kn : Int)) ∧ w' = w := by
  intro n
  induction n using Nat.strongRecOn with
  | _ n ih =>
  intro m kn w h1 h2 hn
  by_cases e : m = n
  · subst e
    rw [lg_all]
    cases kn with
    | true =>
      clear ih
      go_enter Tryd.func33, Tryd.ntmps33
      go_wp2
      go_ret
      exact ⟨rfl, rfl⟩
    | false =>
      clear ih
      go_enter Tryd.func33, Tryd.ntmps33
      go_wp2
      go_ret
      exact ⟨rfl, rfl⟩
  have e4 : ((m : Int) == (n : Int)) = false := by simp; omega
  have k1 := kk_pos n
  have k2 := kk_lt n (by omega)
  have HF := hide (fun W => rbelow_any n (by omega) hn W)
  by_cases hk : m ≤ kk n
  · have e5 : (m : Int) ≤ (kk n : Int) := by omega
    have HR := hide (ih (kk n) k2 m kn w h1 hk (by omega))
    have hl := lg_le (kk n) m kn h1 hk
    rw [lg_left m n kn (by omega) e hk]
    generalize lg m (kk n) kn = L at *
    clear ih e
    generalize kk n = k at *
    go_enter Tryd.func33, Tryd.ntmps33
    go_wp2_with fail
    refine (unhide HF _).mono ?_
    rintro e y0 ⟨rfl, hy0⟩
    subst y0
    go_wp2_with fail
    refine (unhide HR).mono ?_
    rintro e y0 ⟨rfl, hy0⟩
    subst y0
    go_wp2
    go_ret
    exact ⟨by first | rfl | go_num, rfl⟩
  · have e5 : ¬ (m : Int) ≤ (kk n : Int) := by omega
    have HR := hide (ih (n - kk n) (by omega) (m - kk n) false w (by omega) (by omega) (by omega))
    have hl := lg_le (n - kk n) (m - kk n) false (by omega) (by omega)
    rw [lg_right m n kn (by omega) e hk]
    have hd1 : ((n : Int) - (kk n : Int)) = ((n - kk n : Nat) : Int) := by omega
    have hd2 : IntKind.i64.wrap ((n - kk n : Nat) : Int) = ((n - kk n : Nat) : Int) := wrapI_eq _ (by omega) (by omega)
    have hd3 : ((m : Int) - (kk n : Int)) = ((m - kk n : Nat) : Int) := by omega
    have hd4 : IntKind.i64.wrap ((m - kk n : Nat) : Int) = ((m - kk n : Nat) : Int) := wrapI_eq _ (by omega) (by omega)
    generalize lg (m - kk n) (n - kk n) false = L at *
    have hL9 : L ≤ 65536 := by omega
    clear ih e hl
    generalize n - kk n = n' at *
    generalize m - kk n = m' at *
    generalize kk n = k at *
    go_enter Tryd.func33, Tryd.ntmps33
    go_wp2_with fail
    refine (unhide HF _).mono ?_
    rintro e y0 ⟨rfl, hy0⟩
    subst y0
    go_wp2_with fail
    refine (unhide HR).mono ?_
    rintro e y0 ⟨rfl, hy0⟩
    subst y0
    go_wp2
    go_ret
    exact ⟨by first | rfl | go_num, rfl⟩
end Go.Proofs.YtkileaocgecckabDoor
