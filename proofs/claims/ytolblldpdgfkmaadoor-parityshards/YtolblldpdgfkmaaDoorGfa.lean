namespace Go.Proofs.YtolblldpdgfkmaaDoor
/-- the product ahead of what is taken away: of each bit of b, a shifted so far -/
def clm (a b : Nat) : Nat := (List.range 8).foldl (fun p i => if b.testBit i then p ^^^ (a <<< i) else p) 0
/-- what is too high is taken away, one bit -/
def rd (i p : Nat) : Nat := if p.testBit (i + 8) then p ^^^ (285 <<< i) else p
def red (p : Nat) : Nat := rd 0 (rd 1 (rd 2 (rd 3 (rd 4 (rd 5 (rd 6 p))))))
/-- the product of two elements -/
def gm (a b : Nat) : Nat := red (clm a b)
theorem xc (a b c d : Nat) : (a ^^^ b) ^^^ (c ^^^ d) = (a ^^^ c) ^^^ (b ^^^ d) := by
  rw [Nat.xor_assoc, Nat.xor_assoc, ← Nat.xor_assoc b c d, Nat.xor_comm b c, Nat.xor_assoc c b d]
theorem rd_lin (i p q : Nat) : rd i (p ^^^ q) = rd i p ^^^ rd i q := by
  unfold rd
  rw [Nat.testBit_xor]
  cases hp : p.testBit (i + 8) <;> cases hq : q.testBit (i + 8) <;> simp
  · rw [Nat.xor_assoc]
  · rw [Nat.xor_assoc, Nat.xor_comm q, Nat.xor_assoc]
  · rw [xc, Nat.xor_self, Nat.xor_zero]
theorem red_lin (p q : Nat) : red (p ^^^ q) = red p ^^^ red q := by
  unfold red
  simp only [rd_lin]
def clF (a b : Nat) : List Nat → Nat → Nat
  | [], p => p
  | i :: l, p => clF a b l (if b.testBit i then p ^^^ (a <<< i) else p)
theorem clm_eq (a b : Nat) : clm a b = clF a b (List.range 8) 0 := by
  unfold clm
  generalize (0 : Nat) = p
  induction (List.range 8) generalizing p with
  | nil => rfl
  | cons i l ih => simp only [List.foldl_cons, clF]; exact ih _
theorem clF_left (a c b : Nat) : ∀ (l : List Nat) (p q : Nat), clF (a ^^^ c) b l (p ^^^ q) = clF a b l p ^^^ clF c b l q
  | [], _, _ => rfl
  | i :: l, p, q => by
    simp only [clF]
    cases b.testBit i
    · exact clF_left a c b l p q
    · simp only [if_true]
      rw [Nat.shiftLeft_xor_distrib, xc]
      exact clF_left a c b l _ _
theorem clF_right (a b c : Nat) : ∀ (l : List Nat) (p q : Nat), clF a (b ^^^ c) l (p ^^^ q) = clF a b l p ^^^ clF a c l q
  | [], _, _ => rfl
  | i :: l, p, q => by
    simp only [clF, Nat.testBit_xor]
    cases b.testBit i <;> cases c.testBit i <;> simp
    · exact clF_right a b c l p q
    · rw [Nat.xor_assoc]; exact clF_right a b c l p _
    · rw [Nat.xor_assoc, Nat.xor_comm q, ← Nat.xor_assoc]; exact clF_right a b c l _ q
    · have := clF_right a b c l (p ^^^ a <<< i) (q ^^^ a <<< i)
      rw [xc, Nat.xor_self, Nat.xor_zero] at this
      exact this
theorem clm_left (a c b : Nat) : clm (a ^^^ c) b = clm a b ^^^ clm c b := by
  rw [clm_eq, clm_eq, clm_eq]
  have := clF_left a c b (List.range 8) 0 0
  rwa [Nat.xor_self] at this
theorem clm_right (a b c : Nat) : clm a (b ^^^ c) = clm a b ^^^ clm a c := by
  rw [clm_eq, clm_eq, clm_eq]
  have := clF_right a b c (List.range 8) 0 0
  rwa [Nat.xor_self] at this
theorem gm_left (a c b : Nat) : gm (a ^^^ c) b = gm a b ^^^ gm c b := by
  unfold gm
  rw [clm_left, red_lin]
theorem gm_right (a b c : Nat) : gm a (b ^^^ c) = gm a b ^^^ gm a c := by
  unfold gm
  rw [clm_right, red_lin]
/-- a function that keeps sums -/
def Lin (f : Nat → Nat) : Prop := ∀ x y, f (x ^^^ y) = f x ^^^ f y
theorem Lin.zero {f : Nat → Nat} (h : Lin f) : f 0 = 0 := by
  have := h 0 0
  rw [Nat.xor_self, Nat.xor_self] at this
  exact this
theorem split_bit (k a : Nat) (h1 : 2 ^ k ≤ a) (h2 : a < 2 ^ (k + 1)) : a ^^^ 2 ^ k < 2 ^ k := by
  refine Nat.lt_pow_two_of_testBit _ (fun i hi => ?_)
  rw [Nat.testBit_xor, Nat.testBit_two_pow]
  by_cases e : k = i
  · subst e
    have : a.testBit k = true := by
      rw [Nat.testBit_eq_decide_div_mod_eq]
      have h3 : a / 2 ^ k = 1 := by
        rw [Nat.div_eq_iff (Nat.two_pow_pos k)]
        rw [Nat.pow_succ] at h2
        omega
      rw [h3]
      rfl
    rw [this]
    simp
  · have h3 : a.testBit i = false := Nat.testBit_lt_two_pow (Nat.lt_of_lt_of_le h2 (Nat.pow_le_pow_right (by decide) (by omega)))
    rw [h3]
    simp [e]
theorem lin_ext {f g : Nat → Nat} (hf : Lin f) (hg : Lin g) (h : ∀ i, i < 8 → f (2 ^ i) = g (2 ^ i)) : ∀ k, k ≤ 8 → ∀ a, a < 2 ^ k → f a = g a
  | 0, _, a, ha => by
    obtain rfl : a = 0 := by simpa using ha
    rw [hf.zero, hg.zero]
  | k + 1, hk, a, ha => by
    by_cases h1 : 2 ^ k ≤ a
    · have h2 := split_bit k a h1 ha
      have e : a = (a ^^^ 2 ^ k) ^^^ 2 ^ k := by rw [Nat.xor_assoc, Nat.xor_self, Nat.xor_zero]
      rw [e, hf, hg, lin_ext hf hg h k (by omega) _ h2, h k (by omega)]
    · exact lin_ext hf hg h k (by omega) a (by omega)
theorem lin8 {f g : Nat → Nat} (hf : Lin f) (hg : Lin g) (h : ∀ i, i < 8 → f (2 ^ i) = g (2 ^ i)) (a : Nat) (ha : a < 256) : f a = g a := lin_ext hf hg h 8 (Nat.le_refl _) a ha
theorem gm_linL (b : Nat) : Lin (fun a => gm a b) := fun x y => gm_left x y b
theorem gm_linR (a : Nat) : Lin (fun b => gm a b) := fun x y => gm_right a x y
theorem gm_comm (a b : Nat) (ha : a < 256) (hb : b < 256) : gm a b = gm b a := by
  refine lin8 (gm_linL b) (gm_linR b) (fun i hi => ?_) a ha
  refine lin8 (gm_linR (2 ^ i)) (gm_linL (2 ^ i)) (fun j hj => ?_) b hb
  have : ∀ i, i < 8 → ∀ j, j < 8 → gm (2 ^ i) (2 ^ j) = gm (2 ^ j) (2 ^ i) := by decide +kernel
  exact this i hi j hj
theorem Lin.comp {f g : Nat → Nat} (hf : Lin f) (hg : Lin g) : Lin (fun x => f (g x)) := fun x y => by
  show f (g (x ^^^ y)) = _
  rw [hg, hf]
theorem gm_assoc (a b c : Nat) (ha : a < 256) (hb : b < 256) (hc : c < 256) : gm (gm a b) c = gm a (gm b c) := by
  refine lin8 ((gm_linL c).comp (gm_linL b)) (gm_linL (gm b c)) (fun i hi => ?_) a ha
  refine lin8 ((gm_linL c).comp (gm_linR (2 ^ i))) ((gm_linR (2 ^ i)).comp (gm_linL c)) (fun j hj => ?_) b hb
  refine lin8 (gm_linR (gm (2 ^ i) (2 ^ j))) ((gm_linR (2 ^ i)).comp (gm_linR (2 ^ j))) (fun k hk => ?_) c hc
  have : ∀ i, i < 8 → ∀ j, j < 8 → ∀ k, k < 8 → gm (gm (2 ^ i) (2 ^ j)) (2 ^ k) = gm (2 ^ i) (gm (2 ^ j) (2 ^ k)) := by decide +kernel
  exact this i hi j hj k hk
theorem gm_zero (a : Nat) : gm a 0 = 0 := (gm_linR a).zero
theorem zero_gm (a : Nat) : gm 0 a = 0 := (gm_linL a).zero
theorem gm_one (a : Nat) (ha : a < 256) : gm a 1 = a := by
  refine lin8 (f := fun a => gm a 1) (g := fun a => a) (gm_linL 1) (fun _ _ => rfl) (fun i hi => ?_) a ha
  have : ∀ i, i < 8 → gm (2 ^ i) 1 = 2 ^ i := by decide +kernel
  exact this i hi
theorem one_gm (a : Nat) (ha : a < 256) : gm 1 a = a := by rw [gm_comm 1 a (by decide) ha, gm_one a ha]
theorem xor_lt8 {a b : Nat} (ha : a < 256) (hb : b < 256) : a ^^^ b < 256 := Nat.xor_lt_two_pow (n := 8) ha hb
theorem gm_lt (a b : Nat) (ha : a < 256) (hb : b < 256) : gm a b < 256 := by
  have key : ∀ k, k ≤ 8 → ∀ a, a < 2 ^ k → gm a b < 256 := by
    intro k
    induction k with
    | zero =>
      intro _ a ha
      obtain rfl : a = 0 := by simpa using ha
      rw [zero_gm]
      decide
    | succ k ih =>
      intro hk a ha
      by_cases h1 : 2 ^ k ≤ a
      · have h2 := split_bit k a h1 ha
        have e : a = (a ^^^ 2 ^ k) ^^^ 2 ^ k := by rw [Nat.xor_assoc, Nat.xor_self, Nat.xor_zero]
        rw [e, gm_left]
        refine xor_lt8 (ih (by omega) _ h2) ?_
        have k2 : ∀ j, j ≤ 8 → ∀ b, b < 2 ^ j → gm (2 ^ k) b < 256 := by
          intro j
          induction j with
          | zero =>
            intro _ b hb
            obtain rfl : b = 0 := by simpa using hb
            rw [gm_zero]
            decide
          | succ j ih2 =>
            intro hj b hb
            by_cases h3 : 2 ^ j ≤ b
            · have h4 := split_bit j b h3 hb
              have e2 : b = (b ^^^ 2 ^ j) ^^^ 2 ^ j := by rw [Nat.xor_assoc, Nat.xor_self, Nat.xor_zero]
              rw [e2, gm_right]
              refine xor_lt8 (ih2 (by omega) _ h4) ?_
              have : ∀ i, i < 8 → ∀ j, j < 8 → gm (2 ^ i) (2 ^ j) < 256 := by decide +kernel
              exact this k (by omega) j (by omega)
            · exact ih2 (by omega) b (by omega)
        exact k2 8 (Nat.le_refl _) b hb
      · exact ih (by omega) a (by omega)
  exact key 8 (Nat.le_refl _) a ha
/-- the inverse, as the document seeks it: the first element whose product is 1 -/
def giv (a : Nat) : Nat := ((List.range 255).find? (fun b => gm a (b + 1) == 1)).elim 0 (· + 1)
/-- the 254th power -/
def p254 (a : Nat) : Nat :=
  let a2 := gm a a
  let a3 := gm a2 a
  let a12 := gm (gm (gm a3 a3) (gm a3 a3)) 1
  let a15 := gm a12 a3
  let a30 := gm a15 a15
  let a60 := gm a30 a30
  let a120 := gm a60 a60
  let a240 := gm a120 a120
  gm (gm a240 a12) a2
theorem p254_ok : ∀ a, a < 256 → a ≠ 0 → gm a (p254 a) = 1 ∧ p254 a < 256 ∧ p254 a ≠ 0 := by decide +kernel
theorem giv_ok (a : Nat) (ha : a < 256) (h0 : a ≠ 0) : gm a (giv a) = 1 ∧ giv a < 256 ∧ giv a ≠ 0 := by
  obtain ⟨h1, h2, h3⟩ := p254_ok a ha h0
  unfold giv
  cases h : (List.range 255).find? (fun b => gm a (b + 1) == 1) with
  | none =>
    rw [List.find?_eq_none] at h
    have := h (p254 a - 1) (List.mem_range.2 (by omega))
    rw [show p254 a - 1 + 1 = p254 a by omega, h1] at this
    simp at this
  | some b =>
    have hb := List.find?_some h
    have hm := List.mem_range.1 (List.mem_of_find?_eq_some h)
    simp at hb
    exact ⟨hb, by show b + 1 < 256; omega, by show b + 1 ≠ 0; omega⟩
theorem giv_zero : giv 0 = 0 := by decide +kernel
theorem gm_inj {a b c : Nat} (ha : a < 256) (hb : b < 256) (hc : c < 256) (h0 : a ≠ 0) (h : gm a b = gm a c) : b = c := by
  obtain ⟨h1, h2, _⟩ := giv_ok a ha h0
  have e : ∀ x, x < 256 → gm (giv a) (gm a x) = x := fun x hx => by
    rw [← gm_assoc _ _ _ h2 ha hx, gm_comm _ _ h2 ha, h1, one_gm x hx]
  rw [← e b hb, ← e c hc, h]
theorem gm_eq_zero {a b : Nat} (ha : a < 256) (hb : b < 256) (h : gm a b = 0) : a = 0 ∨ b = 0 := by
  by_cases h0 : a = 0
  · exact .inl h0
  · exact .inr (gm_inj ha hb (by decide) h0 (by rw [h, gm_zero]))
theorem giv_uniq {a b : Nat} (ha : a < 256) (hb : b < 256) (h : gm a b = 1) : b = giv a := by
  have h0 : a ≠ 0 := fun e => by rw [e, zero_gm] at h; cases h
  exact gm_inj ha hb (giv_ok a ha h0).2.1 h0 (by rw [h, (giv_ok a ha h0).1])
end Go.Proofs.YtolblldpdgfkmaaDoor
