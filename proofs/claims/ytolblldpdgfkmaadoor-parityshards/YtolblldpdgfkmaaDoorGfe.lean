import Derived.Test.YtolblldpdgfkmaaDoorGfd
namespace Go.Proofs.YtolblldpdgfkmaaDoor
theorem sm_const_zero : ∀ l : List Nat, sm (fun _ => g0) l = g0
  | [] => rfl
  | _ :: l => by
    simp only [sm]
    rw [sm_const_zero l, gadd_zero]
theorem sm_swap (f : Nat → Nat → G) (m : List Nat) : ∀ l : List Nat, sm (fun i => sm (fun j => f i j) m) l = sm (fun j => sm (fun i => f i j) l) m
  | [] => by
    show g0 = sm (fun _ => g0) m
    rw [sm_const_zero]
  | i :: l => by
    show sm (fun j => f i j) m + sm (fun i => sm (fun j => f i j) m) l = sm (fun j => f i j + sm (fun i => f i j) l) m
    rw [sm_swap f m l, ← sm_add]
theorem sm_mul_left (f : Nat → G) (c : G) (l : List Nat) : sm (fun i => c * f i) l = c * sm f l := by
  rw [gmul_comm c, ← sm_mul]
  exact sm_congr (fun i _ => gmul_comm _ _)
/-- what is weighed twice: x over the rows, y over the columns -/
theorem two_ways (n : Nat) (M : Nat → Nat → G) (x y : Nat → G) : sm (fun r => x r * rK n y (M r)) (List.range n) = sm (fun i => rK n x (fun r => M r i) * y i) (List.range n) := by
  have e1 : sm (fun r => x r * rK n y (M r)) (List.range n) = sm (fun r => sm (fun i => x r * (M r i * y i)) (List.range n)) (List.range n) :=
    sm_congr (fun r _ => by unfold rK; rw [sm_mul_left])
  have e2 : sm (fun i => rK n x (fun r => M r i) * y i) (List.range n) = sm (fun i => sm (fun r => x r * (M r i * y i)) (List.range n)) (List.range n) :=
    sm_congr (fun i _ => by
      unfold rK
      rw [← sm_mul]
      exact sm_congr (fun r _ => by show M r i * x r * y i = x r * (M r i * y i); ac_rfl))
  rw [e1, e2, sm_swap]
/-- A square that takes no list but noughts to noughts: nor does the one that is turned over. -/
theorem tr_inj {n : Nat} {M : Nat → Nat → G} (h : ∀ y : Nat → G, (∀ i, i < n → rK n y (M i) = g0) → ∀ j, j < n → y j = g0) (x : Nat → G) (hx : ∀ i, i < n → rK n x (fun r => M r i) = g0) : ∀ j, j < n → x j = g0 := by
  intro j hj
  obtain ⟨y, hy⟩ := inj_sur h (fun i => if i = j then g1 else g0)
  have e := two_ways n M x y
  rw [show sm (fun r => x r * rK n y (M r)) (List.range n) = sm (fun r => if r = j then x j else g0) (List.range n) from sm_congr (fun r hr => by
    rw [hy r (List.mem_range.1 hr)]
    by_cases q : r = j
    · rw [if_pos q, if_pos q, gmul_one, q]
    · rw [if_neg q, if_neg q, gmul_zero]), sm_one n j hj, sm_zero (fun i hi => by rw [hx i (List.mem_range.1 hi), gzero_mul])] at e
  exact e
/-- the rows of shards that are the first ones: all of them different, none beyond the last -/
structure Fst (n : Nat) (f : Nat → Nat) : Prop where
  n1 : 1 ≤ n
  n2 : n ≤ 16
  lt : ∀ r, r < n → f r < n + 8
  inj : ∀ r s, r < n → s < n → f r = f s → r = s
theorem Fst.data {n : Nat} {f : Nat → Nat} (h : Fst n f) (b : Nat → G) : ∃ y : Nat → G, ∀ r, r < n → rK n y (wt n (f r)) = b r :=
  inj_sur (fun y hy => rows_inj h.n2 f h.lt h.inj y hy) b
/-- the equations for the weights of the shard k, by rows of data -/
def wE (n : Nat) (f : Nat → Nat) (k : Nat) : Nat → Nat → G := fun i r => if r < n then wt n (f r) i else wt n k i
theorem wE_rK (n : Nat) (f : Nat → Nat) (k : Nat) (x : Nat → G) (i : Nat) : rK n x (wE n f k i) = rK n x (fun r => wt n (f r) i) := by
  unfold rK
  exact sm_congr (fun r hr => by unfold wE; rw [if_pos (List.mem_range.1 hr)])
theorem Fst.ga {n : Nat} {f : Nat → Nat} (h : Fst n f) (k : Nat) {ok : Bool} {B : Nat → Nat → G} (hg : Ga n 0 (wE n f k) ok B) : ok = true := by
  cases ok with
  | true => rfl
  | false =>
    obtain ⟨y, ⟨j, hj, hn⟩, hy⟩ := (hg.sol (un_zero n _)).2 rfl
    exact absurd (tr_inj (M := fun r => wt n (f r)) (fun y hy => rows_inj h.n2 f h.lt h.inj y hy) y (fun i hi => by rw [← wE_rK n f k]; exact hy i hi) j hj) hn
/-- What the first ones say, by the weights that are found, is what their data say. -/
theorem Fst.say {n : Nat} {f : Nat → Nat} (k : Nat) {B : Nat → Nat → G} (hg : Ga n 0 (wE n f k) true B) (y b : Nat → G) (hy : ∀ r, r < n → rK n y (wt n (f r)) = b r) : sm (fun r => B r n * b r) (List.range n) = rK n y (wt n k) := by
  have hs := (hg.one (fun r => B r n)).2 (fun _ _ => rfl)
  have hx : ∀ i, i < n → rK n (fun r => B r n) (fun r => wt n (f r) i) = wt n k i := fun i hi => by
    have e := gadd_eq_zero (hs i hi)
    rw [show wE n f k i n = wt n k i from if_neg (Nat.lt_irrefl n)] at e
    rw [← wE_rK n f k]
    exact e
  have e := two_ways n (fun r => wt n (f r)) (fun r => B r n) y
  rw [show sm (fun r => B r n * rK n y (wt n (f r))) (List.range n) = sm (fun r => B r n * b r) (List.range n) from sm_congr (fun r hr => by rw [hy r (List.mem_range.1 hr)])] at e
  rw [e]
  unfold rK
  exact sm_congr (fun i hi => by
    have := hx i (List.mem_range.1 hi)
    unfold rK at this
    rw [this])
end Go.Proofs.YtolblldpdgfkmaaDoor
