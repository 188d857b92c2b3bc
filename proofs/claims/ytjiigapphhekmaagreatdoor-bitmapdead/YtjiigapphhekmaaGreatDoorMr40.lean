import Derived.Test.YtjiigapphhekmaaGreatDoorMr39
namespace Go.Proofs.YtjiigapphhekmaaGreatDoor
open Go.RowKit Go.Maps Go.Sort Go.Shelf
theorem flushK {w0 w : World} {b jb : Nat} {s : DSt} {nx : Nat} {lost : Bool} {X : Nat → Prop} (h : JK w0 w b jb s nx lost X) (hp : s.pend.length ≤ 1000000000) (ha : s.acts.length ≤ 1000000000) :
    Calls Tryz.prog 25 #[.pointer (some ⟨b, 0, none⟩)] w fun e w' => e = .returned (.int .i64 (flushE s)) ∧ JK w0 w' b jb (flushS s) nx lost X ∧ Only (fun x => ¬ X x) w w' := by
  obtain ⟨v, h1, h2, h3, h4, h5, h6, h7⟩ := h
  refine (flush_any w _ b v s h1 h5.size h6 hp ha).mono ?_
  rintro ev w' ⟨rfl, hP⟩
  exact ⟨rfl, JK.dpost h1 h2 h3 h4 h5 h6.flush h7 hP⟩
theorem flushP {w0 w : World} {b jb pb : Nat} {S : PS} {X : Nat → Prop} (K : PK w0 w b jb pb S X) (hp : S.s.pend.length ≤ 1000000000) (ha : S.s.acts.length ≤ 1000000000) (hl : (flushS S.s).last.length = S.s.last.length) :
    Calls Tryz.prog 25 #[.pointer (some ⟨b, 0, none⟩)] w fun e w' => e = .returned (.int .i64 (flushE S.s)) ∧ PK w0 w' b jb pb { S with s := flushS S.s } X ∧ Only (fun x => ¬ X x) w w' := by
  obtain ⟨bw, bv, ov, K⟩ := K
  refine (flushK K.jk hp ha).mono ?_
  rintro ev w' ⟨rfl, hJ, hO⟩
  have np : ∀ x, Pf pb bw bv ov x → ¬ ¬ (X x ∨ Pf pb bw bv ov x) := fun x q r => r (.inr q)
  refine ⟨rfl, ⟨bw, bv, ov, hJ, K.blk.only hO (np _ (.inl rfl)), K.tx.only hO (np _ (.inr (.inl rfl))), K.hn.only hO (np _ (.inr (.inr (.inl rfl)))) (fun x q => np _ (.inr (.inr (.inr q)))), K.ne, K.lo1, K.lo2, K.lo3, K.xn, K.hk, K.kp, K.t16, ?_⟩, hO.mono (fun x _ q r => q (.inl r))⟩
  show ∀ p ∈ S.tx, 19 ≤ p.1 ∧ p.1 < ((flushS S.s).last.length : Int) ∧ p.2.size = 256
  rw [hl]
  exact K.tok
/-- A map over a pool whose disk is dead, and of which nothing is at hand. -/
def Dd (w0 w : World) (b jb pb mb : Nat) (X : Nat → Prop) (n : Nat) (op : Bool) (D : DSt) : Prop :=
  ∃ S, PK w0 w b jb pb S X ∧ MB w mb pb 19 n ∧ X mb ∧ ETy w0 ∧ S.s = D ∧ S.h = [] ∧ S.tx = [] ∧ S.op = op ∧ D.dead = true ∧ D.last.length = 128 ∧ 1 ≤ n ∧ n ≤ 1024
theorem Dd.bel {w0 w : World} {b jb pb mb : Nat} {X : Nat → Prop} {n : Nat} {op : Bool} {D : DSt} (h : Dd w0 w b jb pb mb X n op D) : Below w0.heap.size w0 w := by
  obtain ⟨S, K, _⟩ := h
  exact K.bel
theorem Dd.below {w0 w : World} {b jb pb mb : Nat} {X : Nat → Prop} {n : Nat} {op : Bool} {D : DSt} (h : Dd w0 w b jb pb mb X n op D) {w' : World} (hb : Below w.heap.size w w') : Dd w0 w' b jb pb mb X n op D := by
  obtain ⟨S, K, hM, hX, rest⟩ := h
  exact ⟨S, K.below hb, hM.below hb, hX, rest⟩
theorem Dd.mp {w0 w : World} {b jb pb mb : Nat} {X : Nat → Prop} {n : Nat} {op : Bool} {D : DSt} (h : Dd w0 w b jb pb mb X n op D) : MB w mb pb 19 n := by
  obtain ⟨S, K, hM, _⟩ := h
  exact hM
theorem Dd.df {w0 w : World} {b jb pb mb : Nat} {X : Nat → Prop} {n : Nat} {op : Bool} {D : DSt} (h : Dd w0 w b jb pb mb X n op D) : DF w0 w b D X := by
  obtain ⟨S, K, hM, hX, hg, hs, _⟩ := h
  rw [← hs]
  exact K.df
theorem read_gone {S : PS} {D : DSt} (hs : S.s = D) (hh : S.h = []) (ht : S.tx = []) (hd : D.dead = true) (hl : D.last.length = 128) (i : Nat) (hi : i < 128) : (readP S (i : Int)).1 = ⟨#[]⟩ ∧ (readP S (i : Int)).2.1 = 2 ∧ ((readP S (i : Int)).2.2 = S ∨ (readP S (i : Int)).2.2 = lostS S) := by
  have hb : hasB S.s (i : Int) = true := by rw [hs]; unfold hasB; rw [hl]; simp; omega
  have hr : readE S.s (i : Int) = 2 := by
    rw [hs]
    unfold readE
    rw [if_pos (show isOk D (i : Int) from ⟨by omega, by rw [hl]; omega⟩), if_pos hd]
  unfold readP
  rw [hb, if_neg (by decide)]
  cases hlo : S.lost
  · rw [if_neg (by decide), ht, hh, hr]
    exact ⟨rfl, rfl, .inr rfl⟩
  · exact ⟨rfl, rfl, .inl rfl⟩
theorem Dd.read {w0 w : World} {b jb pb mb : Nat} {X : Nat → Prop} {n : Nat} {op : Bool} {D : DSt} (h : Dd w0 w b jb pb mb X n op D) (k : Nat) (hk : k < pgs n) : Calls Tryz.prog 41 #[.pointer (some ⟨mb, 0, none⟩), .int .i64 (k : Int)] w fun e w' => e = .returned (.tuple #[.string ⟨#[]⟩, .int .i64 2]) ∧ Dd w0 w' b jb pb mb X n op D ∧ Only (fun x => ¬ X x) w w' := by
  obtain ⟨S, K, hM, hX, hg, hs, hh, ht, ho, hd, hl, hn1, hn2⟩ := h
  have h4 := pgs_le hn2
  obtain ⟨r1, r2, r3⟩ := read_gone hs hh ht hd hl (19 + k) (by omega)
  have e1 : rdE S (19 + k) k = 2 := by rw [rdE, r2, if_neg (by decide)]
  have e2 : rdT S (19 + k) k = ⟨#[]⟩ := by rw [rdT, r2, if_neg (by decide)]
  have hT : (readT S.s ((19 + k : Nat) : Int)).size ≤ maxLen := by
    rw [hs]
    unfold readT
    rw [if_pos (show isOk D ((19 + k : Nat) : Int) from ⟨by omega, by rw [hl]; omega⟩), if_pos hd]
    exact Nat.zero_le _
  have hc := mread_any K hM hX hg (by decide) k (by omega) hT (by rw [r1]; exact Nat.zero_le _)
  rw [e1, e2] at hc
  refine hc.mono ?_
  rintro e w' ⟨rfl, K', hO⟩
  refine ⟨rfl, ⟨_, K', hM.only hO (fun q => q hX), hX, hg, ?_, ?_, ?_, ?_, hd, hl, hn1, hn2⟩, hO⟩ <;> rcases r3 with r | r <;> rw [r]
  · exact hs
  · exact hs
  · exact hh
  · exact hh
  · exact ht
  · exact ht
  · exact ho
  · exact ho
theorem Dd.changeable {w0 w : World} {b jb pb mb : Nat} {X : Nat → Prop} {n : Nat} {op : Bool} {D : DSt} (h : Dd w0 w b jb pb mb X n op D) : Calls Tryz.prog 47 #[.pointer (some ⟨mb, 0, none⟩)] w fun e w' => e = .returned (.bool op) ∧ Dd w0 w' b jb pb mb X n op D ∧ Only (fun x => ¬ X x) w w' := by
  obtain ⟨S, K, hM, hX, hg, hs, hh, ht, ho, hd, hl, hn1, hn2⟩ := h
  have hc := changeable_any K hM hX
  have e : (chgS S).s = S.s ∧ (chgS S).h = S.h ∧ (chgS S).tx = [] ∧ (chgS S).op = S.op := by
    unfold chgS
    cases h1 : S.op
    · cases h2 : S.lost
      · exact ⟨rfl, rfl, rfl, rfl⟩
      · exact ⟨rfl, rfl, ht, h1⟩
    · exact ⟨rfl, rfl, ht, h1⟩
  rw [ho] at hc
  refine hc.mono ?_
  rintro e' w' ⟨rfl, K', hO⟩
  exact ⟨rfl, ⟨_, K', hM.only hO (fun q => q hX), hX, hg, e.1.trans hs, e.2.1.trans hh, e.2.2.1, e.2.2.2.trans ho, hd, hl, hn1, hn2⟩, hO⟩
theorem Dd.abort {w0 w : World} {b jb pb mb : Nat} {X : Nat → Prop} {n : Nat} {D : DSt} (h : Dd w0 w b jb pb mb X n true D) : Calls Tryz.prog 33 #[.pointer (some ⟨pb, 0, none⟩)] w fun e w' => e = .returned (.int .i64 0) ∧ Dd w0 w' b jb pb mb X n false D ∧ Only (fun x => ¬ X x) w w' := by
  obtain ⟨S, K, hM, hX, hg, hs, hh, ht, ho, hd, hl, hn1, hn2⟩ := h
  have hc := pabort_any K
  rw [show abortE S = 0 from by simp [abortE, ho], show abortS S = endS S from by simp [abortS, ho]] at hc
  refine hc.mono ?_
  rintro e' w' ⟨rfl, K', hO⟩
  exact ⟨rfl, ⟨_, K', hM.only hO (fun q => q hX), hX, hg, hs, hh, rfl, rfl, hd, hl, hn1, hn2⟩, hO⟩
theorem Dd.n2 {w0 w : World} {b jb pb mb : Nat} {X : Nat → Prop} {n : Nat} {op : Bool} {D : DSt} (h : Dd w0 w b jb pb mb X n op D) : 1 ≤ n ∧ n ≤ 1024 := by
  obtain ⟨S, K, hM, hX, hg, hs, hh, ht, ho, hd, hl, hn1, hn2⟩ := h
  exact ⟨hn1, hn2⟩
theorem pgs_pos {n : Nat} (h : 1 ≤ n) : 0 < pgs n := by unfold pgs; omega
theorem Dd.used {w0 w : World} {b jb pb mb : Nat} {X : Nat → Prop} {n : Nat} {op : Bool} {D : DSt} (h : Dd w0 w b jb pb mb X n op D) (i : Nat) (hi : i < n) : Calls Tryz.prog 16 #[.pointer (some ⟨mb, 0, none⟩), .int .i64 (i : Int)] w fun e w' => e = .returned (.tuple #[.bool false, .int .i64 2]) ∧ Dd w0 w' b jb pb mb X n op D ∧ Only (fun x => ¬ X x) w w' := by
  have hn2 := h.n2.2
  have HH := hide (mhas_any h.mp (i : Int))
  rw [decide_eq_true (show (0 : Int) ≤ (i : Int) by omega), decide_eq_true (show (i : Int) < (n : Int) by omega)] at HH
  have HC := hide (h.read (i / 256) (pgs_lt hi))
  have HP := hide (fun W => pageOf_any i (by omega) W)
  clear h
  generalize i / 256 = ik at *
  go_enter Tryz.func16, Tryz.ntmps16
  go_wp2_with (first | (go_at_call 45; refine (unhide HH).mono ?_; rintro e w' ⟨rfl, hw'⟩; subst w') | (go_at_call 46; refine (unhide HP _).mono ?_; rintro e w' ⟨rfl, hw'⟩; subst w'))
  refine (unhide HC).mono ?_
  rintro e x1 ⟨rfl, hK, hO⟩
  have HK := hide (And.intro hK hO)
  clear hK hO HC HH
  go_wp2
  go_ret2
  exact ⟨rfl, unhide HK⟩
set_option maxRecDepth 100000 in
set_option maxHeartbeats 1000000 in
theorem Dd.list {w0 w : World} {b jb pb mb : Nat} {X : Nat → Prop} {n : Nat} {op : Bool} {D : DSt} (h : Dd w0 w b jb pb mb X n op D) : Calls Tryz.prog 14 #[.pointer (some ⟨mb, 0, none⟩)] w fun e w' => e = .returned (.tuple #[.slice none 0 0, .int .i64 2]) ∧ Dd w0 w' b jb pb mb X n op D ∧ Only (fun x => ¬ X x) w w' := by
  obtain ⟨hn1, hn2⟩ := h.n2
  have c2 := h.mp.c2
  have HPO := hide (fun W => pagesOf_any n hn2 W)
  have HC := hide (h.read 0 (pgs_pos hn1))
  have hp := pgs_pos hn1
  have h4 := pgs_le hn2
  simp only [Int.cast_ofNat_Int] at HC
  clear h
  generalize pgs n = P0 at *
  have hlt : (0 : Int) < (P0 : Int) := by omega
  go_enter Tryz.func14, Tryz.ntmps14
  go_wp2_with (go_at_call 40; refine (unhide HPO _).mono ?_; rintro e w' ⟨rfl, hw'⟩; subst w')
  go_loopw [4, 15] (fun u i wr => u = .slice none 0 0 ∧ i = .int .i64 0 ∧ wr = w) (fun _ _ _ => 0)
  case atStart => exact ⟨rfl, rfl, rfl⟩
  case round =>
    obtain ⟨rfl, rfl, rfl⟩ := hrel
    clear c2
    go_wp2_with fail
    refine (unhide HC).mono ?_
    rintro e x1 ⟨rfl, hK, hO⟩
    have HK := hide (And.intro hK hO)
    clear hK hO HC
    go_wp2
    go_ret2
    exact ⟨rfl, unhide HK⟩
theorem Dd.count {w0 w : World} {b jb pb mb : Nat} {X : Nat → Prop} {n : Nat} {op : Bool} {D : DSt} (h : Dd w0 w b jb pb mb X n op D) : Calls Tryz.prog 15 #[.pointer (some ⟨mb, 0, none⟩)] w fun e w' => e = .returned (.tuple #[.int .i64 0, .int .i64 2]) ∧ Dd w0 w' b jb pb mb X n op D ∧ Only (fun x => ¬ X x) w w' := by
  have HL := hide h.list
  clear h
  go_enter Tryz.func15, Tryz.ntmps15
  go_wp2_with fail
  refine (unhide HL).mono ?_
  rintro e x1 ⟨rfl, hK, hO⟩
  have HK := hide (And.intro hK hO)
  clear hK hO HL
  go_wp2
  go_ret2
  exact ⟨rfl, unhide HK⟩
set_option maxRecDepth 100000 in
set_option maxHeartbeats 1000000 in
theorem Dd.alloc {w0 w : World} {b jb pb mb : Nat} {X : Nat → Prop} {n : Nat} {D : DSt} (h : Dd w0 w b jb pb mb X n true D) : Calls Tryz.prog 17 #[.pointer (some ⟨mb, 0, none⟩)] w fun e w' => e = .returned (.tuple #[.int .i64 0, .int .i64 2]) ∧ Dd w0 w' b jb pb mb X n true D ∧ Only (fun x => ¬ X x) w w' := by
  obtain ⟨hn1, hn2⟩ := h.n2
  have HPO := hide (fun W => pagesOf_any n hn2 W)
  have HCH := hide h.changeable
  have hp := pgs_pos hn1
  have h4 := pgs_le hn2
  have HPP := hide hp
  clear h
  obtain ⟨P0, hP0⟩ : ∃ q, pgs n = q := ⟨_, rfl⟩
  rw [hP0] at HPO hp h4
  have hlt : (0 : Int) < (P0 : Int) := by omega
  clear hP0
  go_enter Tryz.func17, Tryz.ntmps17
  go_wp2
  go_step3
  go_wp2_with fail
  refine (unhide HCH).mono ?_
  rintro e x1 ⟨rfl, h1, hO1⟩
  have c2 := h1.mp.c2
  have HC := hide (h1.read 0 (unhide HPP))
  simp only [Int.cast_ofNat_Int] at HC
  have HO1 := hide hO1
  clear h1 hO1 HCH
  go_wp2_with (go_at_call 40; refine (unhide HPO _).mono ?_; rintro e w' ⟨rfl, hw'⟩; subst w')
  go_loopw [4, 5, 6, 17] (fun _ _ _ i wr => i = .int .i64 0 ∧ wr = x1) (fun _ _ _ _ _ => 0)
  case atStart => exact ⟨rfl, rfl⟩
  case round =>
    obtain ⟨rfl, rfl⟩ := hrel
    clear c2
    go_wp2_with fail
    refine (unhide HC).mono ?_
    rintro e x2 ⟨rfl, hK, hO⟩
    have HK := hide (And.intro hK ((unhide HO1).trans hO (fun _ _ q => q)))
    clear hK hO HC
    go_wp2
    rw [Exit.noGoto_ret]
    go_ret2
    exact ⟨rfl, unhide HK⟩
theorem Dd.alloc_none {w0 w : World} {b jb pb mb : Nat} {X : Nat → Prop} {n : Nat} {D : DSt} (h : Dd w0 w b jb pb mb X n false D) : Calls Tryz.prog 17 #[.pointer (some ⟨mb, 0, none⟩)] w fun e w' => e = .returned (.tuple #[.int .i64 0, .int .i64 61]) ∧ Dd w0 w' b jb pb mb X n false D ∧ Only (fun x => ¬ X x) w w' := by
  have HC := hide h.changeable
  clear h
  go_enter Tryz.func17, Tryz.ntmps17
  go_wp2
  go_step3
  go_wp2_with fail
  refine (unhide HC).mono ?_
  rintro e x1 ⟨rfl, h1, hO1⟩
  have H1 := hide (And.intro h1 hO1)
  clear h1 hO1 HC
  go_wp2
  rw [Exit.noGoto_ret]
  go_ret2
  exact ⟨rfl, unhide H1⟩
theorem Dd.free {w0 w : World} {b jb pb mb : Nat} {X : Nat → Prop} {n : Nat} {D : DSt} (h : Dd w0 w b jb pb mb X n true D) (i : Nat) (hi : i < n) : Calls Tryz.prog 18 #[.pointer (some ⟨mb, 0, none⟩), .int .i64 (i : Int)] w fun e w' => e = .returned (.int .i64 2) ∧ Dd w0 w' b jb pb mb X n true D ∧ Only (fun x => ¬ X x) w w' := by
  have hn2 := h.n2.2
  have HH := hide (mhas_any h.mp (i : Int))
  rw [decide_eq_true (show (0 : Int) ≤ (i : Int) by omega), decide_eq_true (show (i : Int) < (n : Int) by omega)] at HH
  have HCH := hide h.changeable
  have HP := hide (fun W => pageOf_any i (by omega) W)
  have HPL := hide (pgs_lt hi)
  clear h
  generalize i / 256 = ik at *
  go_enter Tryz.func18, Tryz.ntmps18
  go_wp2_with (first | (go_at_call 45; refine (unhide HH).mono ?_; rintro e w' ⟨rfl, hw'⟩; subst w'))
  refine (unhide HCH).mono ?_
  rintro e x1 ⟨rfl, h1, hO1⟩
  have HC := hide (h1.read ik (unhide HPL))
  have HO1 := hide hO1
  clear h1 hO1 HCH HH
  go_wp2_with (first | (go_at_call 46; refine (unhide HP _).mono ?_; rintro e w' ⟨rfl, hw'⟩; subst w'))
  refine (unhide HC).mono ?_
  rintro e x2 ⟨rfl, hK, hO⟩
  have HK := hide (And.intro hK ((unhide HO1).trans hO (fun _ _ q => q)))
  clear hK hO HC
  go_wp2
  go_ret
  exact ⟨rfl, unhide HK⟩
theorem Dd.free_none {w0 w : World} {b jb pb mb : Nat} {X : Nat → Prop} {n : Nat} {D : DSt} (h : Dd w0 w b jb pb mb X n false D) (i : Nat) (hi : i < n) : Calls Tryz.prog 18 #[.pointer (some ⟨mb, 0, none⟩), .int .i64 (i : Int)] w fun e w' => e = .returned (.int .i64 61) ∧ Dd w0 w' b jb pb mb X n false D ∧ Only (fun x => ¬ X x) w w' := by
  have HH := hide (mhas_any h.mp (i : Int))
  rw [decide_eq_true (show (0 : Int) ≤ (i : Int) by omega), decide_eq_true (show (i : Int) < (n : Int) by omega)] at HH
  have HC := hide h.changeable
  clear h hi
  go_enter Tryz.func18, Tryz.ntmps18
  go_wp2_with (first | (go_at_call 45; refine (unhide HH).mono ?_; rintro e w' ⟨rfl, hw'⟩; subst w'))
  refine (unhide HC).mono ?_
  rintro e x1 ⟨rfl, h1, hO1⟩
  have H1 := hide (And.intro h1 hO1)
  clear h1 hO1 HC HH
  go_wp2
  go_ret
  exact ⟨rfl, unhide H1⟩
theorem Dd.free_place {w0 w : World} {b jb pb mb : Nat} {X : Nat → Prop} {n : Nat} {op : Bool} {D : DSt} (h : Dd w0 w b jb pb mb X n op D) (z : Int) (hz : ¬ (0 ≤ z ∧ z < (n : Int))) : Calls Tryz.prog 18 #[.pointer (some ⟨mb, 0, none⟩), .int .i64 z] w fun e w' => e = .returned (.int .i64 72) ∧ w' = w := by
  have HH := hide (mhas_any h.mp z)
  rw [show (decide (0 ≤ z) && decide (z < (n : Int))) = false from by
    by_cases q : 0 ≤ z
    · rw [decide_eq_false (fun r => hz ⟨q, r⟩)]; simp
    · rw [decide_eq_false q]; rfl] at HH
  clear h hz
  go_enter Tryz.func18, Tryz.ntmps18
  go_wp2_with (first | (go_at_call 45; refine (unhide HH).mono ?_; rintro e w' ⟨rfl, hw'⟩; subst w'))
  go_ret
  exact ⟨rfl, rfl⟩
/-- A transaction that has written nothing, of a pool of which nothing is at hand. -/
def Pre (w0 w : World) (b jb pb mb : Nat) (X : Nat → Prop) (n : Nat) (D : DSt) : Prop :=
  ∃ S, PK w0 w b jb pb S X ∧ MB w mb pb 19 n ∧ X mb ∧ ETy w0 ∧ S.s = D ∧ S.h = [] ∧ S.tx = [] ∧ S.op = true ∧ D.last.length = 128 ∧ 1 ≤ n ∧ n ≤ 1024
theorem St.bare {w0 w : World} {b jb pb mb : Nat} {X : Nat → Prop} {n : Nat} {L : List ByteArray} {A : List (Nat × Nat)} {hn : Nat} {T : Nat → Bool} (h : St w0 w b jb pb mb X 19 n 0 false L A hn T T) : Calls Tryz.prog 12 #[.pointer (some ⟨pb, 0, none⟩)] w fun e w' => e = .returned (.int .i64 0) ∧ Pre w0 w' b jb pb mb X n (rs L A) ∧ Only (fun x => ¬ X x) w w' := by
  obtain ⟨S, Mw, Mn, h1, h2, h3, h4, h5⟩ := h
  obtain ⟨s1, s2, s3, s4⟩ := h1.seen.begin
  rw [h3] at s1
  have hc := pbegin_any h1.pk
  rw [show beginE S = 0 from s1] at hc
  have hh : S.h = [] := by
    obtain ⟨bw, bv, ov, K⟩ := h1.pk
    have := K.hk
    rw [h5] at this
    exact List.length_eq_zero_iff.1 (by omega)
  refine hc.mono ?_
  rintro e w' ⟨rfl, K, hO⟩
  refine ⟨rfl, ⟨_, K, h1.mp.only hO (fun q => q h1.xm), h1.xm, h1.ety, s2.rst.s, ?_, s4.trans (h1.seen.cl h3), s3, h1.seen.len, h1.n1, h1.n2⟩, hO⟩
  have : (beginS S).h = S.h := by unfold beginS; split <;> (try split) <;> rfl
  rw [this, hh]
theorem Pre.arm {w0 w : World} {b jb pb mb : Nat} {X : Nat → Prop} {n : Nat} {L : List ByteArray} {A : List (Nat × Nat)} (h : Pre w0 w b jb pb mb X n (rs L A)) : Calls Tryz.prog 24 #[.pointer (some ⟨b, 0, none⟩), .int .i64 1] w fun e w' => e = .returned (.int .i64 0) ∧ Pre w0 w' b jb pb mb X n ⟨L, L, [], A, 1, false⟩ ∧ Only (fun x => ¬ X x) w w' := by
  obtain ⟨S, K, hM, hX, hg, hs, hh, ht, ho, hl, hn1, hn2⟩ := h
  have e := arm_rs7 L A 1
  rw [show ((1 : Nat) : Int) = 1 from rfl] at e
  have hc := armP K 1 (by decide) (by rw [hs, e.2]; rfl)
  rw [hs, e.1, e.2] at hc
  refine hc.mono ?_
  rintro ev w' ⟨rfl, K', hO⟩
  exact ⟨rfl, ⟨_, K', hM.only hO (fun q => q hX), hX, hg, rfl, hh, ht, ho, hl, hn1, hn2⟩, hO⟩
theorem flush_dies (L : List ByteArray) (A : List (Nat × Nat)) : flushE ⟨L, L, [], A, 1, false⟩ = 2 ∧ flushS ⟨L, L, [], A, 1, false⟩ = ⟨L, L, [], A, 0, true⟩ := by
  have e : diesS ⟨L, L, [], A, 1, false⟩ = ⟨L, L, [], A, 0, true⟩ := rfl
  unfold flushE flushS
  rw [e]
  exact ⟨rfl, rfl⟩
theorem Pre.flush {w0 w : World} {b jb pb mb : Nat} {X : Nat → Prop} {n : Nat} {L : List ByteArray} {A : List (Nat × Nat)} (h : Pre w0 w b jb pb mb X n ⟨L, L, [], A, 1, false⟩) (ha : A.length ≤ 1000) : Calls Tryz.prog 25 #[.pointer (some ⟨b, 0, none⟩)] w fun e w' => e = .returned (.int .i64 2) ∧ Dd w0 w' b jb pb mb X n true ⟨L, L, [], A, 0, true⟩ ∧ Only (fun x => ¬ X x) w w' := by
  obtain ⟨S, K, hM, hX, hg, hs, hh, ht, ho, hl, hn1, hn2⟩ := h
  have hc := flushP K (by rw [hs]; exact Nat.zero_le _) (by rw [hs]; show A.length ≤ _; omega) (by rw [hs, (flush_dies L A).2])
  rw [hs, (flush_dies L A).1, (flush_dies L A).2] at hc
  refine hc.mono ?_
  rintro ev w' ⟨rfl, K', hO⟩
  exact ⟨rfl, ⟨_, K', hM.only hO (fun q => q hX), hX, hg, rfl, hh, ht, ho, rfl, hl, hn1, hn2⟩, hO⟩
theorem image7 {w0 w : World} {b : Nat} {s : DSt} {X : Nat → Prop} (h : DF w0 w b s X) (hL : s.last.length = 128) : Calls Tryz.prog 28 #[.pointer (some ⟨b, 0, none⟩)] w fun e w' => ∃ g cap, e = .returned (.slice (some ⟨g, 0, none⟩) 128 cap) ∧ Strs w' (some ⟨g, 0, none⟩) s.last ∧ Below w.heap.size w w' := by
  obtain ⟨v, h1, _⟩ := h
  refine (image_any w _ b v _ h1 (by omega) (by omega)).mono ?_
  rintro e w' ⟨v', rfl, hr, hb⟩
  obtain ⟨g, cap, e, hg1, hg2⟩ := hr.form (by omega)
  obtain ⟨p', c', e2, hs⟩ := Strs.own hr
  rw [e] at e2
  simp at e2
  obtain ⟨rfl, rfl⟩ := e2
  exact ⟨g, cap, by rw [e, hL], hs, hb⟩
set_option maxRecDepth 100000 in
set_option maxHeartbeats 1000000 in
theorem bytesD_any {w0 w : World} {b : Nat} {s : DSt} {Lst : List ByteArray} {X : Nat → Prop} (h : DF w0 w b s X) (hs : s.last = Lst) (hL : Lst.length = 128) (hz : ∀ t ∈ Lst, t.size = 256) : Calls Tryz.prog 35 #[.pointer (some ⟨b, 0, none⟩)] w fun e w' => ∃ b' v, e = .returned (.pointer (some ⟨b', 0, none⟩)) ∧ Dk w' w.heap.size b' v (rs Lst []) ∧ Below w.heap.size w w' := by
  subst hs
  have HI := hide (image7 h hL)
  have HQ := hide (And.intro hL hz)
  obtain ⟨Lq, hLq⟩ : ∃ q, s.last = q := ⟨_, rfl⟩
  rw [hLq] at HI HQ ⊢
  clear h hL hz hLq
  go_enter Tryz.func35, Tryz.ntmps35
  go_wp2_with fail
  refine (unhide HI).mono ?_
  rintro e x1 ⟨g, cap, rfl, hs, hb⟩
  have HL := hide (load128 x1 (some ⟨g, 0, none⟩) cap Lq (unhide HQ).1 (unhide HQ).2 hs)
  have HB := hide hb
  clear hs hb HI
  go_wp2_with fail
  refine (unhide HL).mono ?_
  rintro e x2 ⟨b', v, rfl, hd, hb2⟩
  have HR := hide (And.intro (Dk.lower hd (unhide HB).size) ((unhide HB).trans (hb2.mono (unhide HB).size)))
  clear hd hb2 HL HB
  go_wp2
  go_ret
  exact ⟨b', v, rfl, unhide HR⟩
end Go.Proofs.YtjiigapphhekmaaGreatDoor
