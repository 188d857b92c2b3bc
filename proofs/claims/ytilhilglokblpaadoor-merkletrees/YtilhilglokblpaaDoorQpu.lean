import Derived.Test.YtilhilglokblpaaDoorSum
namespace Go.Proofs.YtilhilglokblpaaDoor
open Go.RowKit
set_option maxRecDepth 100000
/-- the digest of a text -/
noncomputable def dg (t : ByteArray) : ByteArray := strOfNums (sha (nums t))
theorem sizeN (l : List Int) : (strOfNums l).size = l.length := by simp [strOfNums, ByteArray.size]
theorem dg_size (t : ByteArray) : (dg t).size = 32 := by rw [dg, sizeN, sha_len]
def mk0 : ByteArray := ⟨#[0]⟩
def mk1 : ByteArray := ⟨#[1]⟩
theorem mk0_size : mk0.size = 1 := rfl
theorem mk1_size : mk1.size = 1 := rfl
noncomputable def lf (s : ByteArray) : ByteArray := dg (mk0 ++ s)
noncomputable def ndB (a b : ByteArray) : ByteArray := dg (mk1 ++ a ++ b)
theorem lf_size (s : ByteArray) : (lf s).size = 32 := dg_size _
theorem ndB_size (a b : ByteArray) : (ndB a b).size = 32 := dg_size _
/-- the greatest power of two below n -/
def kk (n : Nat) : Nat := 2 ^ Nat.log2 (n - 1)
theorem kk_pos (n : Nat) : 1 ≤ kk n := Nat.one_le_two_pow
theorem kk_lt (n : Nat) (h : 2 ≤ n) : kk n < n := by
  have := Nat.log2_self_le (n := n - 1) (by omega)
  unfold kk
  omega
theorem kk_two (n : Nat) (h : 2 ≤ n) : n ≤ 2 * kk n := by
  have := Nat.lt_log2_self (n := n - 1)
  rw [Nat.pow_succ] at this
  unfold kk
  omega
theorem kk_is (n e : Nat) (h1 : 2 ^ e < n) (h2 : n ≤ 2 ^ (e + 1)) : kk n = 2 ^ e := by
  have h0 : n - 1 ≠ 0 := by have := Nat.one_le_two_pow (n := e); omega
  unfold kk
  congr 1
  exact (Nat.log2_eq_iff h0).2 ⟨by omega, by omega⟩
/-- the root of some leaves -/
noncomputable def rt (l : List ByteArray) : ByteArray :=
  if _h : l.length < 2 then (match l with | [] => dg ⟨#[]⟩ | x :: _ => lf x)
  else ndB (rt (l.take (kk l.length))) (rt (l.drop (kk l.length)))
termination_by l.length
decreasing_by
  · have := kk_lt l.length (by omega); rw [List.length_take]; omega
  · have := kk_pos l.length; rw [List.length_drop]; omega
theorem rt_nil : rt [] = dg ⟨#[]⟩ := by rw [rt]; simp
theorem rt_one (x : ByteArray) : rt [x] = lf x := by rw [rt]; simp
theorem rt_two (l : List ByteArray) (h : 2 ≤ l.length) : rt l = ndB (rt (l.take (kk l.length))) (rt (l.drop (kk l.length))) := by
  rw [rt]
  rw [dif_neg (by omega)]
theorem rt_size (l : List ByteArray) : (rt l).size = 32 := by
  by_cases h : 2 ≤ l.length
  · rw [rt_two l h]; exact ndB_size _ _
  · match l, h with
    | [], _ => rw [rt_nil]; exact dg_size _
    | [x], _ => rw [rt_one]; exact lf_size _
    | x :: y :: l, h => exact absurd (by simp) h
/-- the path of the i-th -/
noncomputable def pt (l : List ByteArray) (i : Nat) : List ByteArray :=
  if _h : l.length < 2 then []
  else if i < kk l.length then pt (l.take (kk l.length)) i ++ [rt (l.drop (kk l.length))] else pt (l.drop (kk l.length)) (i - kk l.length) ++ [rt (l.take (kk l.length))]
termination_by l.length
decreasing_by
  · have := kk_lt l.length (by omega); rw [List.length_take]; omega
  · have := kk_pos l.length; rw [List.length_drop]; omega
theorem pt_one (l : List ByteArray) (i : Nat) (h : l.length < 2) : pt l i = [] := by rw [pt, dif_pos h]
theorem pt_left (l : List ByteArray) (i : Nat) (h : 2 ≤ l.length) (hi : i < kk l.length) : pt l i = pt (l.take (kk l.length)) i ++ [rt (l.drop (kk l.length))] := by
  rw [pt, dif_neg (by omega), if_pos hi]
theorem pt_right (l : List ByteArray) (i : Nat) (h : 2 ≤ l.length) (hi : ¬ i < kk l.length) : pt l i = pt (l.drop (kk l.length)) (i - kk l.length) ++ [rt (l.take (kk l.length))] := by
  rw [pt, dif_neg (by omega), if_neg hi]
/-- the texts that are digested from the leaf up, if the path has the form of one -/
noncomputable def up (n i : Nat) (s : ByteArray) (P : List ByteArray) : Option (List ByteArray) :=
  if _h : n < 2 then (if P = [] then some [mk0 ++ s] else none)
  else match P.getLast? with
    | none => none
    | some b => if b.size = 32 then
        (if i < kk n then (up (kk n) i s P.dropLast).map (fun T => T ++ [mk1 ++ dg (T.getLastD ⟨#[]⟩) ++ b])
         else (up (n - kk n) (i - kk n) s P.dropLast).map (fun T => T ++ [mk1 ++ b ++ dg (T.getLastD ⟨#[]⟩)]))
      else none
termination_by n
decreasing_by
  · have := kk_lt n (by omega); omega
  · have := kk_pos n; omega
theorem up_one (n i : Nat) (s : ByteArray) (h : n < 2) : up n i s [] = some [mk0 ++ s] := by rw [up, dif_pos h, if_pos rfl]
theorem up_one_no (n i : Nat) (s : ByteArray) (P : List ByteArray) (h : n < 2) (hP : P ≠ []) : up n i s P = none := by rw [up, dif_pos h, if_neg hP]
theorem up_nil (n i : Nat) (s : ByteArray) (h : 2 ≤ n) : up n i s [] = none := by rw [up, dif_neg (by omega)]; rfl
theorem up_bad (n i : Nat) (s : ByteArray) (P : List ByteArray) (b : ByteArray) (h : 2 ≤ n) (hb : b.size ≠ 32) : up n i s (P ++ [b]) = none := by
  rw [up, dif_neg (by omega)]
  simp only [List.getLast?_append, List.getLast?_singleton, Option.some_or]
  rw [if_neg hb]
theorem up_left (n i : Nat) (s : ByteArray) (P : List ByteArray) (b : ByteArray) (h : 2 ≤ n) (hb : b.size = 32) (hi : i < kk n) : up n i s (P ++ [b]) = (up (kk n) i s P).map (fun T => T ++ [mk1 ++ dg (T.getLastD ⟨#[]⟩) ++ b]) := by
  rw [up, dif_neg (by omega)]
  simp only [List.getLast?_append, List.getLast?_singleton, Option.some_or, List.dropLast_concat]
  rw [if_pos hb, if_pos hi]
theorem up_right (n i : Nat) (s : ByteArray) (P : List ByteArray) (b : ByteArray) (h : 2 ≤ n) (hb : b.size = 32) (hi : ¬ i < kk n) : up n i s (P ++ [b]) = (up (n - kk n) (i - kk n) s P).map (fun T => T ++ [mk1 ++ b ++ dg (T.getLastD ⟨#[]⟩)]) := by
  rw [up, dif_neg (by omega)]
  simp only [List.getLast?_append, List.getLast?_singleton, Option.some_or, List.dropLast_concat]
  rw [if_pos hb, if_neg hi]
/-- a list that is not empty, by its last element -/
theorem list_last {α : Type} (P : List α) (h : P ≠ []) : ∃ Q b, P = Q ++ [b] := ⟨P.dropLast, P.getLast h, (List.dropLast_concat_getLast h).symm⟩
/-- the path of a leaf that is there is taken, and comes to the root -/
theorem up_pt : ∀ (m : Nat) (l : List ByteArray), l.length = m → ∀ i, i < l.length → ∃ T, up l.length i (l.getD i ⟨#[]⟩) (pt l i) = some T ∧ T ≠ [] ∧ dg (T.getLastD ⟨#[]⟩) = rt l := by
  intro m
  induction m using Nat.strongRecOn with
  | _ m ih =>
  intro l hl i hi
  by_cases h : 2 ≤ l.length
  · have k1 := kk_pos l.length
    have k2 := kk_lt l.length h
    by_cases hk : i < kk l.length
    · have ht : (l.take (kk l.length)).length = kk l.length := by rw [List.length_take]; omega
      obtain ⟨T, h1, h2, h3⟩ := ih (kk l.length) (by omega) (l.take (kk l.length)) ht i (by rw [ht]; exact hk)
      rw [ht] at h1
      have hg : (l.take (kk l.length)).getD i ⟨#[]⟩ = l.getD i ⟨#[]⟩ := by
        rw [List.getD_eq_getElem?_getD, List.getD_eq_getElem?_getD, List.getElem?_take, if_pos hk]
      rw [hg] at h1
      refine ⟨_, by rw [pt_left l i h hk, up_left _ _ _ _ _ h (rt_size _) hk, h1]; rfl, by simp, ?_⟩
      rw [List.getLastD_concat, h3, rt_two l h]
      rfl
    · have ht : (l.drop (kk l.length)).length = l.length - kk l.length := by rw [List.length_drop]
      obtain ⟨T, h1, h2, h3⟩ := ih (l.length - kk l.length) (by omega) (l.drop (kk l.length)) ht (i - kk l.length) (by rw [ht]; omega)
      rw [ht] at h1
      have hg : (l.drop (kk l.length)).getD (i - kk l.length) ⟨#[]⟩ = l.getD i ⟨#[]⟩ := by
        rw [List.getD_eq_getElem?_getD, List.getD_eq_getElem?_getD, List.getElem?_drop]
        congr 2
        omega
      rw [hg] at h1
      refine ⟨_, by rw [pt_right l i h hk, up_right _ _ _ _ _ h (rt_size _) hk, h1]; rfl, by simp, ?_⟩
      rw [List.getLastD_concat, h3, rt_two l h]
      rfl
  · match l, hi, h with
    | [x], hi, _ =>
      have : i = 0 := by simp at hi; omega
      subst this
      refine ⟨[mk0 ++ x], ?_, by simp, ?_⟩
      · rw [pt_one _ _ (by simp)]
        exact up_one _ _ _ (by simp)
      · rw [rt_one]; rfl
    | x :: y :: l, _, h => exact absurd (by simp) h
theorem up_ne {n i : Nat} {s : ByteArray} {P T : List ByteArray} (h : up n i s P = some T) : T ≠ [] := by
  by_cases hn : n < 2
  · rw [up, dif_pos hn] at h
    split at h
    · cases h; simp
    · cases h
  · by_cases hP : P = []
    · rw [hP, up_nil n i s (by omega)] at h; cases h
    · obtain ⟨Q, b, rfl⟩ := list_last P hP
      by_cases hb : b.size = 32
      · by_cases hk : i < kk n
        · rw [up_left n i s Q b (by omega) hb hk] at h
          obtain ⟨T', _, rfl⟩ := Option.map_eq_some_iff.1 h
          simp
        · rw [up_right n i s Q b (by omega) hb hk] at h
          obtain ⟨T', _, rfl⟩ := Option.map_eq_some_iff.1 h
          simp
      · rw [up_bad n i s Q b (by omega) hb] at h; cases h
end Go.Proofs.YtilhilglokblpaaDoor
