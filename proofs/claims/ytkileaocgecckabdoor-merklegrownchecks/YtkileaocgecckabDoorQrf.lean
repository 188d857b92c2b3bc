import Derived.Test.YtkileaocgecckabDoorQre
namespace Go.Proofs.YtkileaocgecckabDoor
open Go.RowKit
set_option maxRecDepth 100000
theorem cm_32 : ∀ (n m : Nat) (w : Bool) (o : ByteArray) (P : List ByteArray) (x : ByteArray × ByteArray), 1 ≤ m → m ≤ n → o.size = 32 → cm m n w o P = some x → x.1.size = 32 ∧ x.2.size = 32 := by
  intro n
  induction n using Nat.strongRecOn with
  | _ n ih =>
  intro m w o P x h1 h2 ho hc
  by_cases hAn : w = true ∧ m = n
  · obtain ⟨rfl, rfl⟩ := hAn
    by_cases hP : P = []
    · rw [hP, cm_known] at hc; cases hc; exact ⟨ho, ho⟩
    · rw [cm_known_no m o P hP] at hc; cases hc
  by_cases hP : P = []
  · rw [hP, cm_nil m n w o hAn (fun _ => by omega)] at hc; cases hc
  obtain ⟨Q, b, rfl⟩ := list_last P hP
  by_cases hb : b.size = 32
  case neg => rw [cm_bad m n w o Q b hAn (fun _ => by omega) hb] at hc; cases hc
  by_cases e : m = n
  · subst e
    obtain rfl : w = false := by cases w with | true => exact absurd ⟨rfl, rfl⟩ hAn | false => rfl
    by_cases hQ : Q = []
    · rw [hQ, List.nil_append, cm_one m o b hb] at hc; cases hc; exact ⟨hb, hb⟩
    · rw [cm_one_no m o b Q hb hQ] at hc; cases hc
  · have k1 := kk_pos n
    have k2 := kk_lt n (by omega)
    by_cases hk : m ≤ kk n
    · rw [cm_left m n w o Q b (by omega) e hb hk] at hc
      obtain ⟨y, hy, rfl⟩ := Option.map_eq_some_iff.1 hc
      exact ⟨(ih _ k2 m w o Q y h1 hk ho hy).1, ndB_size _ _⟩
    · rw [cm_right m n w o Q b (by omega) e hb hk] at hc
      obtain ⟨y, hy, rfl⟩ := Option.map_eq_some_iff.1 hc
      exact ⟨ndB_size _ _, ndB_size _ _⟩
set_option maxHeartbeats 2000000 in
theorem rcomes_any (o : ByteArray) (ho : o.size = 32) : ∀ (n m : Nat) (kn : Bool) (P : List ByteArray) (q : Nat), P.length = q → ∀ (x y : ByteArray), cm m n kn o P = some (x, y) → ∀ (w : World) (B c : Nat) (p : Option Addr), 1 ≤ m → m ≤ n → n ≤ 65536 → SB w B p P → B ≤ w.heap.size → q ≤ 65536 → q ≤ c → Calls Tryd.prog 36 #[.int .i64 (m : Int), .int .i64 (n : Int), .bool kn, .string o, .slice p q c] w fun e w' => e = .returned (.tuple #[.string x, .string y]) ∧ Below w.heap.size w w' := by
  intro n
  induction n using Nat.strongRecOn with
  | _ n ih =>
  intro m kn P q hq x y hc w B c p h1 h2 hn hS hB hq9 hqc
  obtain ⟨h, hh⟩ : ∃ h, w.heap.size = h := ⟨_, rfl⟩
  have HB0 := hide (show Below h w w from Below.refl _ _)
  rw [hh]
  by_cases hAn : kn = true ∧ m = n
  · obtain ⟨rfl, rfl⟩ := hAn
    obtain ⟨rfl, rfl⟩ : o = x ∧ o = y := by
      by_cases hP : P = []
      · rw [hP, cm_known] at hc; cases hc; exact ⟨rfl, rfl⟩
      · rw [cm_known_no m o P hP] at hc; cases hc
    clear hS hc ih hq
    go_enter Tryd.func36, Tryd.ntmps36
    go_wp2
    go_ret2
    exact ⟨rfl, unhide HB0⟩
  have hP : P ≠ [] := fun e => by rw [e, cm_nil m n kn o hAn (fun _ => by omega)] at hc; cases hc
  obtain ⟨Q, b, rfl⟩ := list_last P hP
  have hb : b.size = 32 := Classical.byContradiction (fun hb => by rw [cm_bad m n kn o Q b hAn (fun _ => by omega) hb] at hc; cases hc)
  obtain ⟨qn, hqn⟩ : ∃ n, Q.length = n := ⟨_, rfl⟩
  obtain rfl : q = qn + 1 := by rw [← hq, List.length_append, hqn]; rfl
  obtain ⟨g, o9, rfl, hgB, hcb⟩ := hS qn (by omega)
  rw [show (Q ++ [b]).getD qn ⟨#[]⟩ = b from gl_end Q b qn hqn.symm] at hcb
  by_cases e : m = n
  · subst e
    obtain rfl : kn = false := by cases kn with | true => exact absurd ⟨rfl, rfl⟩ hAn | false => rfl
    by_cases hQ : Q = []
    case neg => rw [cm_one_no m o b Q hb hQ] at hc; cases hc
    · subst hQ
      obtain rfl : qn = 0 := by simpa using hqn.symm
      obtain ⟨rfl, rfl⟩ : b = x ∧ b = y := by rw [List.nil_append, cm_one m o b hb] at hc; cases hc; exact ⟨rfl, rfl⟩
      have e4 : ((m : Int) == (m : Int)) = true := by simp
      have HBD := hide (show Below h w w.drew from (Below.refl _ _).drew)
      clear hS hc ih hq hAn hP
      go_enter Tryd.func36, Tryd.ntmps36
      go_wp2_with fail
      refine wp_region_held_drew (S := fun W => W.cell? ⟨g, o9, none⟩ = some (.string b)) (by kernel_rfl) hcb ?_
      intro hS
      refine wpAnyH_takeD 0 (some 24) (.slice (some ⟨g, o9, none⟩) 1 c) rfl rfl (by kernel_rfl) (by kernel_rfl) (by kernel_rfl) (fun _ _ _ h => h) (Or.inl ⟨by rfl, fun w hSw => by have q0 : w.cell? ⟨g, o9, none⟩ = some (.string b) := hSw; clear hSw; go_simp; try (intro hbad; omega)⟩) hS ?_
      simp only [Act.put, List.setIfInBounds_toArray, List.set_cons_zero, List.set_cons_succ]
      refine wpAnyH_takeD 1 (some 25) (.pointer (some ⟨g, o9, none⟩)) rfl rfl (by kernel_rfl) (by kernel_rfl) (by kernel_rfl) (fun _ _ _ h => h) (Or.inl ⟨by rfl, fun w hSw => by have q0 : w.cell? ⟨g, o9, none⟩ = some (.string b) := hSw; clear hSw; go_simp; try (intro hbad; omega)⟩) hS ?_
      simp only [Act.put, List.setIfInBounds_toArray, List.set_cons_zero, List.set_cons_succ]
      refine wpAnyH_takeD 2 (some 26) (.string b) rfl rfl (by kernel_rfl) (by kernel_rfl) (by kernel_rfl) (fun _ _ _ h => h) (Or.inl ⟨by rfl, fun w hSw => by have q0 : w.cell? ⟨g, o9, none⟩ = some (.string b) := hSw; clear hSw; go_simp; try (intro hbad; omega)⟩) hS ?_
      simp only [Act.put, List.setIfInBounds_toArray, List.set_cons_zero, List.set_cons_succ]
      refine wpAnyH_takeD 3 (some 27) (.slice (some ⟨g, o9, none⟩) 1 c) rfl rfl (by kernel_rfl) (by kernel_rfl) (by kernel_rfl) (fun _ _ _ h => h) (Or.inl ⟨by rfl, fun w hSw => by have q0 : w.cell? ⟨g, o9, none⟩ = some (.string b) := hSw; clear hSw; go_simp; try (intro hbad; omega)⟩) hS ?_
      simp only [Act.put, List.setIfInBounds_toArray, List.set_cons_zero, List.set_cons_succ]
      refine wpAnyH_takeD 4 (some 28) (.pointer (some ⟨g, o9, none⟩)) rfl rfl (by kernel_rfl) (by kernel_rfl) (by kernel_rfl) (fun _ _ _ h => h) (Or.inl ⟨by rfl, fun w hSw => by have q0 : w.cell? ⟨g, o9, none⟩ = some (.string b) := hSw; clear hSw; go_simp; try (intro hbad; omega)⟩) hS ?_
      simp only [Act.put, List.setIfInBounds_toArray, List.set_cons_zero, List.set_cons_succ]
      refine wpAnyH_takeD 5 (some 29) (.string b) rfl rfl (by kernel_rfl) (by kernel_rfl) (by kernel_rfl) (fun _ _ _ h => h) (Or.inl ⟨by rfl, fun w hSw => by have q0 : w.cell? ⟨g, o9, none⟩ = some (.string b) := hSw; clear hSw; go_simp; try (intro hbad; omega)⟩) hS ?_
      simp only [Act.put, List.setIfInBounds_toArray, List.set_cons_zero, List.set_cons_succ]
      refine wpAnyH_takeD 6 (some 10) (.string b) rfl rfl (by kernel_rfl) (by kernel_rfl) (by kernel_rfl) (fun _ _ _ h => h) (Or.inl ⟨by rfl, fun w hSw => by have q0 : w.cell? ⟨g, o9, none⟩ = some (.string b) := hSw; clear hSw; go_simp; try (intro hbad; omega)⟩) hS ?_
      simp only [Act.put, List.setIfInBounds_toArray, List.set_cons_zero, List.set_cons_succ]
      refine wpAnyH_takeD 7 (some 11) (.string b) rfl rfl (by kernel_rfl) (by kernel_rfl) (by kernel_rfl) (fun _ _ _ h => h) (Or.inl ⟨by rfl, fun w hSw => by have q0 : w.cell? ⟨g, o9, none⟩ = some (.string b) := hSw; clear hSw; go_simp; try (intro hbad; omega)⟩) hS ?_
      simp only [Act.put, List.setIfInBounds_toArray, List.set_cons_zero, List.set_cons_succ]
      refine wpAnyH_done (by kernel_rfl) ?_ _
      go_wp2
      go_ret2
      exact ⟨rfl, unhide HBD⟩
  have e4 : ((m : Int) == (n : Int)) = false := by simp; omega
  have k1 := kk_pos n
  have k2 := kk_lt n (by omega)
  have HF := hide (fun W => rbelow_any n (by omega) hn W)
  have HSQ := hide (show SB w B (some ⟨g, o9, none⟩) Q from by
    have := hS.take Q.length
    rw [List.take_left] at this
    exact this)
  have f1 : ((qn + 1 : Nat) : Int) - 1 = (qn : Int) := by omega
  have f2 : ((qn : Int) + 1) - 1 = (qn : Int) := by omega
  have f3 : IntKind.i64.wrap (qn : Int) = (qn : Int) := wrapI_eq _ (by omega) (by omega)
  have f4 : (qn : Int) < (qn : Int) + 1 := by omega
  have f5 : (qn : Int) ≤ (c : Int) := by omega
  by_cases hk : m ≤ kk n
  · have e5 : (m : Int) ≤ (kk n : Int) := by omega
    rw [cm_left m n kn o Q b (by omega) e hb hk] at hc
    obtain ⟨⟨x', y'⟩, hy, hxy⟩ := Option.map_eq_some_iff.1 hc
    obtain ⟨rfl, rfl⟩ : x' = x ∧ ndB y' b = y := by cases hxy; exact ⟨rfl, rfl⟩
    have hz := cm_32 _ _ _ _ _ _ h1 hk ho hy
    have HR := hide (ih (kk n) k2 m kn Q qn hqn x' y' hy w B c _ h1 hk (by omega) (unhide HSQ) hB (by omega) (by omega))
    have HN := hide (fun W => rnode_any y' b hz.2 hb W)
    generalize ndB y' b = nn at *
    clear ih e hS hc hy hxy hAn hP hq hz
    generalize kk n = k at *
    go_enter Tryd.func36, Tryd.ntmps36
    go_wp2_with fail
    refine (unhide HF _).mono ?_
    rintro e y0 ⟨rfl, hy0⟩
    subst y0
    go_wp2_with fail
    refine (unhide HR).mono ?_
    rintro e y1 ⟨rfl, hb1⟩
    have HB1 := hide (show Below h w y1 from (unhide HB0).trans (hb1.mono (by omega)))
    clear hb1
    go_wp2_with fail
    refine (unhide HN _).mono ?_
    rintro e y2 ⟨rfl, hb1⟩
    have HB2 := hide (show Below h w y2 from (unhide HB1).trans (hb1.mono (by have := (unhide HB1).size; omega)))
    clear hb1
    go_wp2
    go_ret2
    exact ⟨rfl, unhide HB2⟩
  · have e5 : ¬ (m : Int) ≤ (kk n : Int) := by omega
    rw [cm_right m n kn o Q b (by omega) e hb hk] at hc
    obtain ⟨⟨x', y'⟩, hy, hxy⟩ := Option.map_eq_some_iff.1 hc
    obtain ⟨rfl, rfl⟩ : ndB b x' = x ∧ ndB b y' = y := by cases hxy; exact ⟨rfl, rfl⟩
    have hz := cm_32 _ _ _ _ _ _ (by omega) (by omega) ho hy
    have HR := hide (ih (n - kk n) (by omega) (m - kk n) false Q qn hqn x' y' hy w B c _ (by omega) (by omega) (by omega) (unhide HSQ) hB (by omega) (by omega))
    have HN1 := hide (fun W => rnode_any b x' hb hz.1 W)
    have HN2 := hide (fun W => rnode_any b y' hb hz.2 W)
    have hd1 : ((n : Int) - (kk n : Int)) = ((n - kk n : Nat) : Int) := by omega
    have hd2 : IntKind.i64.wrap ((n - kk n : Nat) : Int) = ((n - kk n : Nat) : Int) := wrapI_eq _ (by omega) (by omega)
    have hd3 : ((m : Int) - (kk n : Int)) = ((m - kk n : Nat) : Int) := by omega
    have hd4 : IntKind.i64.wrap ((m - kk n : Nat) : Int) = ((m - kk n : Nat) : Int) := wrapI_eq _ (by omega) (by omega)
    generalize ndB b y' = n2 at *
    generalize ndB b x' = n1 at *
    clear ih e hS hc hy hxy hAn hP hq hz
    generalize n - kk n = n' at *
    generalize m - kk n = m' at *
    generalize kk n = k at *
    go_enter Tryd.func36, Tryd.ntmps36
    go_wp2_with fail
    refine (unhide HF _).mono ?_
    rintro e y0 ⟨rfl, hy0⟩
    subst y0
    go_wp2_with fail
    refine (unhide HR).mono ?_
    rintro e y1 ⟨rfl, hb1⟩
    have HB1 := hide (show Below h w y1 from (unhide HB0).trans (hb1.mono (by omega)))
    clear hb1
    go_wp2_with fail
    refine (unhide HN1 _).mono ?_
    rintro e y2 ⟨rfl, hb1⟩
    have HB2 := hide (show Below h w y2 from (unhide HB1).trans (hb1.mono (by have := (unhide HB1).size; omega)))
    clear hb1
    go_wp2_with fail
    refine (unhide HN2 _).mono ?_
    rintro e y3 ⟨rfl, hb1⟩
    have HB3 := hide (show Below h w y3 from (unhide HB2).trans (hb1.mono (by have := (unhide HB2).size; omega)))
    clear hb1
    go_wp2
    go_ret2
    exact ⟨rfl, unhide HB3⟩
end Go.Proofs.YtkileaocgecckabDoor
