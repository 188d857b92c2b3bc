import Derived.Test.YtolblldpdgfkmaaDoorGfa
namespace Go.Proofs.YtolblldpdgfkmaaDoor
/-- an element of the field -/
structure G where
  v : Nat
  h : v < 256
theorem G.ext' {a b : G} (e : a.v = b.v) : a = b := by
  cases a; cases b; cases e; rfl
def g0 : G := ⟨0, by decide⟩
def g1 : G := ⟨1, by decide⟩
def G.add (a b : G) : G := ⟨a.v ^^^ b.v, xor_lt8 a.h b.h⟩
def G.mul (a b : G) : G := ⟨gm a.v b.v, gm_lt _ _ a.h b.h⟩
theorem giv_lt (a : Nat) (ha : a < 256) : giv a < 256 := by
  by_cases h0 : a = 0
  · rw [h0, giv_zero]; decide
  · exact (giv_ok a ha h0).2.1
def G.inv (a : G) : G := ⟨giv a.v, giv_lt _ a.h⟩
instance : Add G := ⟨G.add⟩
instance : Mul G := ⟨G.mul⟩
theorem add_v (a b : G) : (a + b).v = a.v ^^^ b.v := rfl
theorem mul_v (a b : G) : (a * b).v = gm a.v b.v := rfl
theorem gadd_comm (a b : G) : a + b = b + a := G.ext' (Nat.xor_comm _ _)
theorem gadd_assoc (a b c : G) : a + b + c = a + (b + c) := G.ext' (Nat.xor_assoc _ _ _)
theorem gadd_self (a : G) : a + a = g0 := G.ext' (Nat.xor_self _)
theorem gadd_zero (a : G) : a + g0 = a := G.ext' (Nat.xor_zero _)
theorem gzero_add (a : G) : g0 + a = a := by rw [gadd_comm, gadd_zero]
theorem gmul_comm (a b : G) : a * b = b * a := G.ext' (gm_comm _ _ a.h b.h)
theorem gmul_assoc (a b c : G) : a * b * c = a * (b * c) := G.ext' (gm_assoc _ _ _ a.h b.h c.h)
theorem gmul_one (a : G) : a * g1 = a := G.ext' (gm_one _ a.h)
theorem gone_mul (a : G) : g1 * a = a := by rw [gmul_comm, gmul_one]
theorem gmul_zero (a : G) : a * g0 = g0 := G.ext' (gm_zero _)
theorem gzero_mul (a : G) : g0 * a = g0 := by rw [gmul_comm, gmul_zero]
theorem gmul_add (a b c : G) : a * (b + c) = a * b + a * c := G.ext' (gm_right _ _ _)
theorem gadd_mul (a b c : G) : (a + b) * c = a * c + b * c := G.ext' (gm_left _ _ _)
theorem gmul_inv (a : G) (h : a ≠ g0) : a * a.inv = g1 := G.ext' (giv_ok a.v a.h (fun e => h (G.ext' e))).1
theorem gmul_eq_zero {a b : G} (h : a * b = g0) : a = g0 ∨ b = g0 := by
  rcases gm_eq_zero a.h b.h (congrArg G.v h) with q | q
  · exact .inl (G.ext' q)
  · exact .inr (G.ext' q)
theorem gone_ne : g1 ≠ g0 := fun h => by cases congrArg G.v h
theorem ginv_ne {a : G} (h : a ≠ g0) : a.inv ≠ g0 := fun e => by
  have := gmul_inv a h
  rw [e, gmul_zero] at this
  exact gone_ne this.symm
theorem gadd_eq_zero {a b : G} (h : a + b = g0) : a = b := by
  rw [← gadd_zero b, ← gadd_self a, gadd_comm b, gadd_assoc, h, gadd_zero]
theorem gadd_cancel (a b : G) : a + (a + b) = b := by rw [← gadd_assoc, gadd_self, gzero_add]
instance : Std.Associative (α := G) (· + ·) := ⟨gadd_assoc⟩
instance : Std.Commutative (α := G) (· + ·) := ⟨gadd_comm⟩
instance : Std.Associative (α := G) (· * ·) := ⟨gmul_assoc⟩
instance : Std.Commutative (α := G) (· * ·) := ⟨gmul_comm⟩
/-- sums over lists of numbers -/
def sm (f : Nat → G) : List Nat → G
  | [] => g0
  | i :: l => f i + sm f l
theorem sm_add (f g : Nat → G) : ∀ l, sm (fun i => f i + g i) l = sm f l + sm g l
  | [] => (gadd_zero g0).symm
  | i :: l => by
    simp only [sm]
    rw [sm_add f g l]
    ac_rfl
theorem sm_mul (f : Nat → G) (c : G) : ∀ l, sm (fun i => f i * c) l = sm f l * c
  | [] => (gzero_mul c).symm
  | i :: l => by
    simp only [sm]
    rw [sm_mul f c l, gadd_mul]
theorem sm_congr {f g : Nat → G} : ∀ {l : List Nat}, (∀ i, i ∈ l → f i = g i) → sm f l = sm g l
  | [], _ => rfl
  | i :: l, h => by
    simp only [sm]
    rw [h i (List.mem_cons_self ..), sm_congr (fun j hj => h j (List.mem_cons_of_mem _ hj))]
theorem sm_zero {f : Nat → G} : ∀ {l : List Nat}, (∀ i, i ∈ l → f i = g0) → sm f l = g0
  | [], _ => rfl
  | i :: l, h => by
    simp only [sm]
    rw [h i (List.mem_cons_self ..), sm_zero (fun j hj => h j (List.mem_cons_of_mem _ hj)), gadd_zero]
/-- what stands between two rows of such a square -/
theorem cauchy_id (x x0 i i0 a b : G) (ha : a * (x + i) = g1) (hb : b * (x0 + i) = g1) : a * (x + i0) + b * (x0 + i0) = (i0 + i) * b * a * (x + x0) := by
  have e1 : a * (x + i0) = g1 + a * (i0 + i) := by
    rw [← ha, ← gmul_add]
    congr 1
    rw [show x + i + (i0 + i) = x + i0 + (i + i) by ac_rfl, gadd_self, gadd_zero]
  have e2 : b * (x0 + i0) = g1 + b * (i0 + i) := by
    rw [← hb, ← gmul_add]
    congr 1
    rw [show x0 + i + (i0 + i) = x0 + i0 + (i + i) by ac_rfl, gadd_self, gadd_zero]
  have e3 : a + b = b * a * (x + x0) := by
    have e4 : b * a * (x + x0) = b * a * (x + i) + b * a * (x0 + i) := by
      rw [← gmul_add]
      congr 1
      rw [show x + i + (x0 + i) = x + x0 + (i + i) by ac_rfl, gadd_self, gadd_zero]
    rw [e4, gmul_assoc b a (x + i), ha, gmul_one, gmul_comm b a, gmul_assoc a b (x0 + i), hb, gmul_one, gadd_comm]
  rw [e1, e2, show g1 + a * (i0 + i) + (g1 + b * (i0 + i)) = (g1 + g1) + (a * (i0 + i) + b * (i0 + i)) by ac_rfl, gadd_self, gzero_add, ← gadd_mul, e3]
  ac_rfl
/-- Of such a square no column hangs on others: P the points of the columns, those of the rows in J, all different. -/
theorem cauchy (P : Nat → G) : ∀ (I : List Nat) (J : List G) (y : Nat → G), (∀ i j, i ∈ I → j ∈ I → P i = P j → i = j) → I.Nodup → J.Nodup → I.length ≤ J.length → (∀ x, x ∈ J → ∀ i, i ∈ I → x ≠ P i) → (∀ x, x ∈ J → sm (fun i => y i * (x + P i).inv) I = g0) → ∀ i, i ∈ I → y i = g0
  | [], _, _, _, _, _, _, _, _, i, hi => absurd hi (by simp)
  | i0 :: I, [], _, _, _, _, hl, _, _, _, _ => absurd hl (by simp)
  | i0 :: I, x0 :: J, y, hP, hI, hJ, hl, hx, hs, i, hi => by
    have hne : ∀ x, x ∈ x0 :: J → ∀ i, i ∈ i0 :: I → x + P i ≠ g0 := fun x h1 i h2 q => hx x h1 i h2 (gadd_eq_zero q)
    have hIn := List.nodup_cons.1 hI
    have hJn := List.nodup_cons.1 hJ
    have key : ∀ j, j ∈ I → y j = g0 := by
      intro j hj
      have hz := cauchy P I J (fun i => y i * (P i0 + P i) * (x0 + P i).inv) (fun a b ha hb => hP a b (List.mem_cons_of_mem _ ha) (List.mem_cons_of_mem _ hb)) hIn.2 hJn.2 (by simpa using hl) (fun x h1 i h2 => hx x (List.mem_cons_of_mem _ h1) i (List.mem_cons_of_mem _ h2)) (fun x h1 => ?_) j hj
      · have hb := ginv_ne (hne x0 (List.mem_cons_self ..) j (List.mem_cons_of_mem _ hj))
        rcases gmul_eq_zero hz with q | q
        · rcases gmul_eq_zero q with r | r
          · exact r
          · exact absurd (hP i0 j (List.mem_cons_self ..) (List.mem_cons_of_mem _ hj) (gadd_eq_zero r)) (fun e => hIn.1 (e ▸ hj))
        · exact absurd q hb
      · have s1 := hs x (List.mem_cons_of_mem _ h1)
        have s0 := hs x0 (List.mem_cons_self ..)
        simp only [sm] at s1 s0
        have n1 := gmul_inv _ (hne x (List.mem_cons_of_mem _ h1) i0 (List.mem_cons_self ..))
        have n0 := gmul_inv _ (hne x0 (List.mem_cons_self ..) i0 (List.mem_cons_self ..))
        have t1 : y i0 + sm (fun i => y i * ((x + P i).inv * (x + P i0))) I = g0 := by
          have := congrArg (· * (x + P i0)) s1
          simp only [gadd_mul, gzero_mul] at this
          rw [gmul_assoc, gmul_comm (x + P i0).inv, n1, gmul_one, ← sm_mul] at this
          rw [← this]
          congr 1
          exact sm_congr (fun i _ => by rw [gmul_assoc])
        have t0 : y i0 + sm (fun i => y i * ((x0 + P i).inv * (x0 + P i0))) I = g0 := by
          have := congrArg (· * (x0 + P i0)) s0
          simp only [gadd_mul, gzero_mul] at this
          rw [gmul_assoc, gmul_comm (x0 + P i0).inv, n0, gmul_one, ← sm_mul] at this
          rw [← this]
          congr 1
          exact sm_congr (fun i _ => by rw [gmul_assoc])
        have t2 : sm (fun i => y i * (P i0 + P i) * (x0 + P i).inv * (x + P i).inv) I * (x + x0) = g0 := by
          rw [← sm_mul]
          have e : sm (fun i => y i * (P i0 + P i) * (x0 + P i).inv * (x + P i).inv * (x + x0)) I = sm (fun i => y i * ((x + P i).inv * (x + P i0)) + y i * ((x0 + P i).inv * (x0 + P i0))) I := by
            refine sm_congr (fun i hi => ?_)
            have ca := gmul_inv _ (hne x (List.mem_cons_of_mem _ h1) i (List.mem_cons_of_mem _ hi))
            have cb := gmul_inv _ (hne x0 (List.mem_cons_self ..) i (List.mem_cons_of_mem _ hi))
            have := cauchy_id x x0 (P i) (P i0) (x + P i).inv (x0 + P i).inv (by rw [gmul_comm]; exact ca) (by rw [gmul_comm]; exact cb)
            rw [← gmul_add, this]
            simp only [gmul_assoc]
          rw [e, sm_add]
          have : (y i0 + sm (fun i => y i * ((x + P i).inv * (x + P i0))) I) + (y i0 + sm (fun i => y i * ((x0 + P i).inv * (x0 + P i0))) I) = g0 := by rw [t1, t0, gadd_zero]
          rw [show ∀ a b c : G, (a + b) + (a + c) = (a + a) + (b + c) from fun a b c => by ac_rfl, gadd_self, gzero_add] at this
          exact this
        rcases gmul_eq_zero t2 with q | q
        · exact q
        · exact absurd (gadd_eq_zero q) (fun e => hJn.1 (e ▸ h1))
    rcases List.mem_cons.1 hi with e | e
    · have s0 := hs x0 (List.mem_cons_self ..)
      simp only [sm] at s0
      rw [sm_zero (fun j hj => by rw [key j hj, gzero_mul]), gadd_zero] at s0
      rw [e]
      rcases gmul_eq_zero s0 with q | q
      · exact q
      · exact absurd q (ginv_ne (hne x0 (List.mem_cons_self ..) i0 (List.mem_cons_self ..)))
    · exact key i e
end Go.Proofs.YtolblldpdgfkmaaDoor
