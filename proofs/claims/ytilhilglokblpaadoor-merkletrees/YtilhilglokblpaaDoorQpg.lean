import Derived.Test.YtilhilglokblpaaDoorQpu
namespace Go.Proofs.YtilhilglokblpaaDoor
open Go.RowKit
set_option maxRecDepth 100000
/-- the proof of growth from the first m -/
noncomputable def gr (l : List ByteArray) (m : Nat) (w : Bool) : List ByteArray :=
  if _h : l.length < 2 ∨ m = l.length then (if w then [] else [rt l])
  else if m ≤ kk l.length then gr (l.take (kk l.length)) m w ++ [rt (l.drop (kk l.length))] else gr (l.drop (kk l.length)) (m - kk l.length) false ++ [rt (l.take (kk l.length))]
termination_by l.length
decreasing_by
  · have := kk_lt l.length (by omega); rw [List.length_take]; omega
  · have := kk_pos l.length; rw [List.length_drop]; omega
theorem gr_all (l : List ByteArray) (w : Bool) : gr l l.length w = if w then [] else [rt l] := by rw [gr, dif_pos (.inr rfl)]
theorem gr_left (l : List ByteArray) (m : Nat) (w : Bool) (h : 2 ≤ l.length) (hm : m ≠ l.length) (hk : m ≤ kk l.length) : gr l m w = gr (l.take (kk l.length)) m w ++ [rt (l.drop (kk l.length))] := by
  rw [gr, dif_neg (by omega), if_pos hk]
theorem gr_right (l : List ByteArray) (m : Nat) (w : Bool) (h : 2 ≤ l.length) (hm : m ≠ l.length) (hk : ¬ m ≤ kk l.length) : gr l m w = gr (l.drop (kk l.length)) (m - kk l.length) false ++ [rt (l.take (kk l.length))] := by
  rw [gr, dif_neg (by omega), if_neg hk]
/-- what a proof of growth comes to, if it has the form of one -/
noncomputable def cm (m n : Nat) (w : Bool) (o : ByteArray) (P : List ByteArray) : Option (ByteArray × ByteArray) :=
  if w = true ∧ (n < 2 ∨ m = n) then (if P = [] then some (o, o) else none)
  else match P.getLast? with
    | none => none
    | some b => if b.size = 32 then
        (if _h : n < 2 ∨ m = n then (if P.dropLast = [] then some (b, b) else none)
         else if m ≤ kk n then (cm m (kk n) w o P.dropLast).map (fun x => (x.1, ndB x.2 b))
         else (cm (m - kk n) (n - kk n) false o P.dropLast).map (fun x => (ndB b x.1, ndB b x.2)))
      else none
termination_by n
decreasing_by
  · have := kk_lt n (by omega); omega
  · have := kk_pos n; omega
theorem cm_known (m : Nat) (o : ByteArray) : cm m m true o [] = some (o, o) := by rw [cm, if_pos ⟨rfl, .inr rfl⟩, if_pos rfl]
theorem cm_known_no (m : Nat) (o : ByteArray) (P : List ByteArray) (h : P ≠ []) : cm m m true o P = none := by rw [cm, if_pos ⟨rfl, .inr rfl⟩, if_neg h]
theorem cm_nil (m n : Nat) (w : Bool) (o : ByteArray) (h : ¬ (w = true ∧ m = n)) (hn : n < 2 → m = n) : cm m n w o [] = none := by
  rw [cm, if_neg (by rintro ⟨h1, h2 | h2⟩; exact h ⟨h1, hn h2⟩; exact h ⟨h1, h2⟩)]
  rfl
theorem cm_bad (m n : Nat) (w : Bool) (o : ByteArray) (P : List ByteArray) (b : ByteArray) (h : ¬ (w = true ∧ m = n)) (hn : n < 2 → m = n) (hb : b.size ≠ 32) : cm m n w o (P ++ [b]) = none := by
  rw [cm, if_neg (by rintro ⟨h1, h2 | h2⟩; exact h ⟨h1, hn h2⟩; exact h ⟨h1, h2⟩)]
  simp only [List.getLast?_append, List.getLast?_singleton, Option.some_or]
  rw [if_neg hb]
theorem cm_one (m : Nat) (o b : ByteArray) (hb : b.size = 32) : cm m m false o [b] = some (b, b) := by
  rw [cm, if_neg (by simp)]
  simp only [List.getLast?_singleton, List.dropLast_singleton]
  rw [if_pos hb, dif_pos (.inr trivial), if_pos trivial]
theorem cm_one_no (m : Nat) (o b : ByteArray) (P : List ByteArray) (hb : b.size = 32) (hP : P ≠ []) : cm m m false o (P ++ [b]) = none := by
  rw [cm, if_neg (by simp)]
  simp only [List.getLast?_append, List.getLast?_singleton, Option.some_or, List.dropLast_concat]
  rw [if_pos hb, dif_pos (.inr trivial), if_neg hP]
theorem cm_left (m n : Nat) (w : Bool) (o : ByteArray) (P : List ByteArray) (b : ByteArray) (h : 2 ≤ n) (hm : m ≠ n) (hb : b.size = 32) (hk : m ≤ kk n) : cm m n w o (P ++ [b]) = (cm m (kk n) w o P).map (fun x => (x.1, ndB x.2 b)) := by
  rw [cm, if_neg (by omega)]
  simp only [List.getLast?_append, List.getLast?_singleton, Option.some_or, List.dropLast_concat]
  rw [if_pos hb, dif_neg (by omega), if_pos hk]
theorem cm_right (m n : Nat) (w : Bool) (o : ByteArray) (P : List ByteArray) (b : ByteArray) (h : 2 ≤ n) (hm : m ≠ n) (hb : b.size = 32) (hk : ¬ m ≤ kk n) : cm m n w o (P ++ [b]) = (cm (m - kk n) (n - kk n) false o P).map (fun x => (ndB b x.1, ndB b x.2)) := by
  rw [cm, if_neg (by omega)]
  simp only [List.getLast?_append, List.getLast?_singleton, Option.some_or, List.dropLast_concat]
  rw [if_pos hb, dif_neg (by omega), if_neg hk]
/-- the greatest power below n is that below m, if m lies above it -/
theorem kk_same (m n : Nat) (h : 2 ≤ n) (h1 : kk n < m) (h2 : m ≤ n) : kk m = kk n := by
  have h3 := kk_two n h
  exact kk_is m (Nat.log2 (n - 1)) h1 (by rw [Nat.pow_succ]; unfold kk at h3; omega)
/-- the proof of growth comes to both roots -/
theorem cm_gr : ∀ (q : Nat) (l : List ByteArray), l.length = q → ∀ (m : Nat) (w : Bool) (o : ByteArray), 1 ≤ m → m ≤ l.length → (w = true → o = rt (l.take m)) → cm m l.length w o (gr l m w) = some (rt (l.take m), rt l) := by
  intro q
  induction q using Nat.strongRecOn with
  | _ q ih =>
  intro l hl m w o hm1 hm2 ho
  by_cases e : m = l.length
  · subst e
    rw [gr_all, List.take_length]
    cases w with
    | true =>
      rw [if_pos rfl, cm_known, ho rfl, List.take_length]
    | false =>
      rw [if_neg (by simp), cm_one _ _ _ (rt_size l)]
  · have h2 : 2 ≤ l.length := by omega
    have k1 := kk_pos l.length
    have k2 := kk_lt l.length h2
    by_cases hk : m ≤ kk l.length
    · have ht : (l.take (kk l.length)).length = kk l.length := by rw [List.length_take]; omega
      have e1 : (l.take (kk l.length)).take m = l.take m := by rw [List.take_take, Nat.min_eq_left hk]
      have h := ih (kk l.length) (by omega) (l.take (kk l.length)) ht m w o hm1 (by omega) (fun hw => by rw [e1]; exact ho hw)
      rw [ht, e1] at h
      rw [gr_left l m w h2 e hk, cm_left _ _ _ _ _ _ h2 e (rt_size _) hk, h, rt_two l h2]
      rfl
    · have ht : (l.drop (kk l.length)).length = l.length - kk l.length := by rw [List.length_drop]
      have h := ih (l.length - kk l.length) (by omega) (l.drop (kk l.length)) ht (m - kk l.length) false o (by omega) (by omega) (by simp)
      rw [ht] at h
      have hs := kk_same m l.length h2 (by omega) hm2
      have e2 : rt (l.take m) = ndB (rt (l.take (kk l.length))) (rt ((l.drop (kk l.length)).take (m - kk l.length))) := by
        have hlm : (l.take m).length = m := by rw [List.length_take]; omega
        rw [rt_two (l.take m) (by omega), hlm, hs, List.take_take, Nat.min_eq_left (by omega), List.drop_take]
      rw [gr_right l m w h2 e hk, cm_right _ _ _ _ _ _ h2 e (rt_size _) hk, h, e2, rt_two l h2]
      rfl
end Go.Proofs.YtilhilglokblpaaDoor
