import Derived.Test.YtjiigapphhekmaaGreatDoorMr38
namespace Go.Proofs.YtjiigapphhekmaaGreatDoor
open Go.RowKit Go.Maps Go.Sort Go.Shelf
theorem arm_rs7 (I : List ByteArray) (A : List (Nat × Nat)) (f : Nat) : armE (rs I A) (f : Int) = 0 ∧ armS (rs I A) (f : Int) = ⟨I, I, [], A, (f : Int), false⟩ := by
  have h : ¬ ((f : Int) < 0) := by omega
  rw [armE, armS, if_neg h, if_neg h]
  exact ⟨rfl, rfl⟩
/-- An error is a death. -/
theorem lay_dead (l : List Wr1) : ∀ (s : DSt), OkW s.last.length l → ((layR s l).1 = 0 ↔ (layR s l).2.dead = false) ∧ (layR s l).2.last.length = s.last.length := by
  induction l with
  | nil =>
    intro s _
    show (flushE s = 0 ↔ (flushS s).dead = false) ∧ (flushS s).last.length = s.last.length
    unfold flushE flushS
    cases h : (diesS s).dead
    · simp [h, layP_len]
    · simp [h, diesS_last]
  | cons p r ih =>
    intro s hok
    obtain ⟨h1, h2, h3⟩ := hok p (by simp)
    have hi : isOk s p.1 := ⟨h1, h2⟩
    have hE : writeE s p.1 p.2 = if (diesS s).dead then 2 else 0 := by unfold writeE; rw [if_pos hi, if_pos h3]
    rw [layR]
    cases h : (diesS s).dead
    · rw [h] at hE
      simp only [Bool.false_eq_true, if_false] at hE
      rw [hE, if_pos rfl]
      have hl : (writeS s p.1 p.2).last.length = s.last.length := by
        unfold writeS
        rw [if_pos hi, if_pos h3, h]
        simp [diesS_last]
      have := ih (writeS s p.1 p.2) (by rw [hl]; exact fun x hx => hok x (by simp [hx]))
      rw [hl] at this
      exact this
    · rw [h] at hE
      simp only [if_true] at hE
      have hS : writeS s p.1 p.2 = diesS s := by unfold writeS; rw [if_pos hi, if_pos h3, if_pos h]
      rw [hE, if_neg (by decide), hS]
      simp [h, diesS_last]
theorem runs_dead (R : List (List Wr1)) : ∀ (s : DSt), s.dead = false → (∀ r ∈ R, OkW s.last.length r) → ((runsR s R).1 = 0 ↔ (runsR s R).2.dead = false) := by
  induction R with
  | nil => intro s h _; simp [runsR, h]
  | cons r R ih =>
    intro s _ hR
    obtain ⟨h1, h2⟩ := lay_dead r s (hR r (by simp))
    rw [runsR]
    by_cases e : (layR s r).1 = 0
    · rw [if_pos e]
      exact ih _ (h1.1 e) (by rw [h2]; exact fun x hx => hR x (by simp [hx]))
    · rw [if_neg e]
      exact h1
theorem commit_dead {S : PS} {O : List ByteArray} {A : List (Nat × Nat)} {f : Nat} (hs : S.s = ⟨O, O, [], A, (f : Int), false⟩) (hO : O.length = 128) (hnx : S.nx = 2) (hjl : S.jl = false) (hlost : S.lost = false) (ho : S.op = true) (hl : GoodL S.tx) : commitPE S = 0 ↔ (commitPS S).s.dead = false := by
  have hr := runs_dead (runsOf 2 S.tx) S.s (by rw [hs]) (by
    rw [hs]
    show ∀ r ∈ runsOf 2 S.tx, OkW O.length r
    rw [hO]
    intro r hr
    unfold runsOf at hr
    simp only [List.mem_cons, List.not_mem_nil, or_false] at hr
    rcases hr with e | e | e | e
    · rw [e]; exact rec_ok _ hl
    · rw [e]; exact head_ok 128 (by decide) 2 _ (by rw [secs16 _ hl]; decide)
    · rw [e]; exact fill_ok _ hl
    · rw [e]; exact head_ok 128 (by decide) 2 _ (by simp))
  have hc : commitR S.s S.nx S.jl S.tx = if (runsR S.s (runsOf 2 S.tx)).1 = 0 then ⟨0, (runsR S.s (runsOf 2 S.tx)).2, (2 + 1) % 4294967296, false⟩ else ⟨(runsR S.s (runsOf 2 S.tx)).1, (runsR S.s (runsOf 2 S.tx)).2, 2, true⟩ := by
    unfold commitR
    rw [hnx, hjl, if_neg (by
      rw [hs]
      show ¬ refE S.tx (O.length : Int) ≠ 0
      rw [hO]
      intro q
      exact q hl.ref), if_neg (by decide)]
  unfold commitPE commitPS
  rw [ho, hlost, if_neg (by decide), if_neg (by decide), if_neg (by decide), if_neg (by decide)]
  have e2 : (doneS S).s = (commitR S.s S.nx S.jl S.tx).s := rfl
  by_cases e : (runsR S.s (runsOf 2 S.tx)).1 = 0
  · rw [if_pos e] at hc
    have hd := hr.1 e
    rw [hc]
    simp only [if_true]
    rw [e2, hc]
    simp [hd]
  · rw [if_neg e] at hc
    have hd : ¬ (runsR S.s (runsOf 2 S.tx)).2.dead = false := fun q => e (hr.2 q)
    rw [hc]
    simp only
    rw [if_neg e, e2, hc]
    simp [e, hd]
theorem headB_inj {n m : Nat} (hn : n < 4294967296) (hm : m < 4294967296) (h : headB n [] = headB m []) : n = m := by
  obtain ⟨a1, a2⟩ := headB_make n [] hn (by simp)
  obtain ⟨b1, b2⟩ := headB_make m [] hm (by simp)
  have e1 := (make_parse 2 (n : Int) _ a1).2.2.1
  have e2 := (make_parse 2 (m : Int) _ b1).2.2.1
  rw [← a2, h, b2, e2] at e1
  omega
/-- A pool with an open transaction, on a disk that may die. -/
def Armed (w0 w : World) (b jb pb : Nat) (X : Nat → Prop) (n : Nat) (O : List ByteArray) (A : List (Nat × Nat)) (f : Nat) (tx : Tx) (Tw T : Nat → Bool) : Prop :=
  ∃ S, PK w0 w b jb pb S X ∧ S.s = ⟨O, O, [], A, (f : Int), false⟩ ∧ S.nx = 2 ∧ S.jl = false ∧ S.lost = false ∧ S.op = true ∧ S.tx = tx ∧ GoodL tx ∧ StO O O ∧ MS O 19 n Tw ∧ MS (layP O (natW tx)) 19 n T
theorem St.arm {w0 w : World} {b jb pb mb : Nat} {X : Nat → Prop} {n kp : Nat} {L : List ByteArray} {A : List (Nat × Nat)} {Tw T : Nat → Bool} (h : St w0 w b jb pb mb X 19 n kp true L A 1 Tw T) (f : Nat) (hf : f ≤ 40) :
    Calls Tryz.prog 24 #[.pointer (some ⟨b, 0, none⟩), .int .i64 (f : Int)] w fun e w' => e = .returned (.int .i64 0) ∧ (∃ tx, Armed w0 w' b jb pb X n L A f tx Tw T) ∧ Only (fun x => ¬ X x) w w' := by
  have hlast := h.lasts
  obtain ⟨S, Mw, Mn, h1, h2, h3, h4⟩ := h
  have hs := h1.seen.rst.s
  have hc := armP h1.pk (f : Int) (by omega) (by rw [hs, (arm_rs7 L A f).2]; rfl)
  rw [hs, (arm_rs7 L A f).1, (arm_rs7 L A f).2] at hc
  refine hc.mono ?_
  rintro e w' ⟨rfl, K, hO⟩
  have h5 := h1.hi
  refine ⟨rfl, ⟨S.tx, _, K, rfl, by show S.nx = 2; rw [h1.seen.rst.nx], h1.seen.rst.jl, h1.seen.rst.lost, h3, rfl, tx_good h1.srt h1.t16 h1.tok, ⟨hlast.2.1, hlast.2.2.1, hlast.2.2.2.1, fun k _ _ => rfl⟩, hlast.1, ?_⟩, hO⟩
  refine h1.ms.over (fun k hk => ?_)
  rw [tx_lay h1.srt (fun p hp => (h1.tok p hp).1) L (19 + k) (by rw [h1.seen.len]; omega), h1.seen.now (19 + k) (by omega) (by omega), h1.seen.was (19 + k) (by omega) (by rw [h1.seen.len]; omega)]
theorem Armed.commit {w0 w : World} {b jb pb : Nat} {X : Nat → Prop} {n : Nat} {O : List ByteArray} {A : List (Nat × Nat)} {f : Nat} {tx : Tx} {Tw T : Nat → Bool} (h : Armed w0 w b jb pb X n O A f tx Tw T) (hf : f ≤ 40) (ha : A.length ≤ 1000) :
    Calls Tryz.prog 32 #[.pointer (some ⟨pb, 0, none⟩)] w fun e w' => ∃ (er : Int) (s' : DSt), e = .returned (.int .i64 er) ∧ (er = 0 ∨ er = 2) ∧ (er = 0 ↔ s'.dead = false) ∧ DF w0 w' b s' X ∧ Only (fun x => ¬ X x) w w' ∧ s'.pend.length ≤ 16 ∧ Crashed (StA O tx (decide (er = 0))) s' := by
  obtain ⟨S, K, hs, hnx, hjl, hlost, ho, htx, hG, hSt, hw, ht⟩ := h
  subst htx
  obtain ⟨ce, s3, ee, es, hce, hp3, ha3, hcr⟩ := commitP_at (S := S) (O := O) (A := A) (f := f) hs hnx hjl hlost ho hSt hG (by omega)
  have hd := commit_dead hs hSt.len hnx hjl hlost ho hG
  refine (pcommit_any K (by rw [hnx]; decide) (by rw [hs]; exact Nat.zero_le _) (by rw [hs]; show A.length ≤ _; omega)).mono ?_
  rintro e w' ⟨rfl, K', hO⟩
  have hdf := K'.df
  rw [es] at hdf hd
  rw [ee] at hd
  exact ⟨ce, s3, by rw [ee], hce, hd, hdf, hO, hp3, hcr⟩
/-- The pool over what was left: the old set, or the new one. -/
theorem popenM {w0 w : World} {b : Nat} {v : DV} {O I : List ByteArray} {l : List Wr1} {must : Bool} {n : Nat} {Tw T : Nat → Bool} (h : Dk w w0.heap.size b v (rs I [])) (h0 : Below w0.heap.size w0 w) (hg : ETy w) (hA : StA O l must I) (hl : GoodL l) (hO : O.length = 128) (hw : MS O 19 n Tw) (ht : MS (layP O (natW l)) 19 n T) (hn : 19 + pgs n ≤ 128) :
    Calls Tryz.prog 23 #[.pointer (some ⟨b, 0, none⟩), .int .i64 3] w (PoolM w0 b 19 n 3 (fun _ _ T' => T' = T ∨ (T' = Tw ∧ must = false))) := by
  refine (popen_any w b 3 (by decide) (fun jp ag er w1 => er = 0 ∧ ∃ jb I A n, jp = some ⟨jb, 0, none⟩ ∧ JK w0 w1 b jb (rs I A) ((n + 1) % 4294967296) false (fun _ => False) ∧ n < 4294967296 ∧ I.length = 128 ∧ (∀ t ∈ I, t.size = 256) ∧ I.getD 1 ByteArray.empty = headB n [] ∧ ((freeQ I O ∧ must = false) ∨ freeQ I (layP O (natW l)))) ((openY h h0 hg hA hl hO).mono (fun e w1 q => by
    obtain ⟨jb, ag, I', A', n, q1, q2⟩ := q
    exact ⟨_, ag, 0, q1, rfl, jb, I', A', n, rfl, q2⟩))).mono ?_
  rintro e w' ⟨jp, ag, er, w1, ⟨rfl, jb, I', A', n', rfl, q1, q2, q3, q4, q5, q6⟩, r | ⟨_, pb, bw, bv, rfl, hP⟩⟩
  · exact absurd rfl r.1
  · have hS : Seen (restP I' A' ((n' + 1) % 4294967296) 3) I' A' n' I' I' := ⟨⟨rfl, rfl, rfl, rfl⟩, q3, q4, q5, q2, fun k _ _ => rfl, q3, q3, fun k _ _ => rfl, fun _ => rfl, fun p hp => by cases hp⟩
    rcases q6 with ⟨r1, r2⟩ | r1
    · exact ⟨jb, pb, _, I', A', n', Tw, rfl, POk.pk q1 (by decide) hP, hS, rfl, ⟨rfl, rfl⟩, hw.over (fun k hk => r1 (19 + k) (by omega) (by omega)), .inr ⟨rfl, r2⟩⟩
    · exact ⟨jb, pb, _, I', A', n', T, rfl, POk.pk q1 (by decide) hP, hS, rfl, ⟨rfl, rfl⟩, ht.over (fun k hk => r1 (19 + k) (by omega) (by omega)), .inl rfl⟩
/-- Some of what is pending. -/
def BkI (wo : World) (P q : Nat) (u : Value) (wr : World) : Prop := ∃ K : List Int, wr.ownsRow wo.heap.size 3 1 u K.length (K.map (Value.int .i64)) ∧ (∀ z ∈ K, pickOk P z) ∧ K.length ≤ q ∧ Below wo.heap.size wo wr
end Go.Proofs.YtjiigapphhekmaaGreatDoor
