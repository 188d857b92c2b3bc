import Derived.Test.YtjlgbafcpoakmaaGreatDoorMf28
import Derived.Deep.AppendLies
namespace Go.Proofs.YtjlgbafcpoakmaaGreatDoor
open Go.RowKit Go.Maps Go.Sort Go.Shelf
/-- A store between calls: the mw volumes Vw were committed, the transaction sees the m volumes V. -/
def VSt (w0 w : World) (b jb pb mb sb gb : Nat) (Z : Nat → Prop) (n kp q : Nat) (op : Bool) (L : List ByteArray) (A : List (Nat × Nat)) (hn mw : Nat) (Vw : Nat → Vol) (Tw : Nat → Bool) (m : Nat) (V : Nat → Vol) (T : Nat → Bool) : Prop :=
  ∃ S Mw Mn tb, MG w0 w b jb pb mb sb (Xlv mb sb gb Z) n S L A hn Mw Mn T ∧ (S.op = op ∧ S.keep = kp ∧ S.tx.length ≤ q) ∧ (MS Mw 19 n Tw ∧ VS Mw n mw Tw Vw) ∧ VS Mn n m T V ∧ Blk w gb (Plc b pb mb sb tb) 30
theorem VSt.c {w0 w : World} {b jb pb mb sb gb : Nat} {Z : Nat → Prop} {n kp q : Nat} {L : List ByteArray} {A : List (Nat × Nat)} {hn mw : Nat} {Vw : Nat → Vol} {Tw : Nat → Bool} {m : Nat} {V : Nat → Vol} {T : Nat → Bool} {op : Bool} (h : VSt w0 w b jb pb mb sb gb Z n kp q op L A hn mw Vw Tw m V T) : w.cell? ⟨gb, 0, none⟩ = some (.pointer (some ⟨b, 0, none⟩)) ∧ w.cell? ⟨gb, 1, none⟩ = some (.pointer (some ⟨pb, 0, none⟩)) ∧ w.cell? ⟨gb, 2, none⟩ = some (.pointer (some ⟨mb, 0, none⟩)) ∧ w.cell? ⟨gb, 3, none⟩ = some (.pointer (some ⟨sb, 0, none⟩)) := by
  obtain ⟨S, Mw, Mn, tb, h1, h2, h3, h4, h5⟩ := h
  exact ⟨h5.cell 0, h5.cell 1, h5.cell 2, h5.cell 3⟩
theorem VSt.bel {w0 w : World} {b jb pb mb sb gb : Nat} {Z : Nat → Prop} {n kp q : Nat} {L : List ByteArray} {A : List (Nat × Nat)} {hn mw : Nat} {Vw : Nat → Vol} {Tw : Nat → Bool} {m : Nat} {V : Nat → Vol} {T : Nat → Bool} {op : Bool} (h : VSt w0 w b jb pb mb sb gb Z n kp q op L A hn mw Vw Tw m V T) : Below w0.heap.size w0 w := by
  obtain ⟨S, Mw, Mn, tb, h1, h2, h3, h4, h5⟩ := h
  exact h1.bel
theorem VSt.vs {w0 w : World} {b jb pb mb sb gb : Nat} {Z : Nat → Prop} {n kp q : Nat} {L : List ByteArray} {A : List (Nat × Nat)} {hn mw : Nat} {Vw : Nat → Vol} {Tw : Nat → Bool} {m : Nat} {V : Nat → Vol} {T : Nat → Bool} {op : Bool} (h : VSt w0 w b jb pb mb sb gb Z n kp q op L A hn mw Vw Tw m V T) : ∃ M, VS M n m T V := by
  obtain ⟨S, Mw, Mn, tb, h1, h2, h3, h4, h5⟩ := h
  exact ⟨Mn, h4⟩
theorem VSt.below {w0 w : World} {b jb pb mb sb gb : Nat} {Z : Nat → Prop} {n kp q : Nat} {L : List ByteArray} {A : List (Nat × Nat)} {hn mw : Nat} {Vw : Nat → Vol} {Tw : Nat → Bool} {m : Nat} {V : Nat → Vol} {T : Nat → Bool} {op : Bool} (h : VSt w0 w b jb pb mb sb gb Z n kp q op L A hn mw Vw Tw m V T) {w' : World} (hb : Below w.heap.size w w') : VSt w0 w' b jb pb mb sb gb Z n kp q op L A hn mw Vw Tw m V T := by
  obtain ⟨S, Mw, Mn, tb, h1, h2, h3, h4, h5⟩ := h
  exact ⟨S, Mw, Mn, tb, h1.below hb, h2, h3, h4, h5.below hb h5.lt⟩
/-- More blocks are fenced. -/
theorem VSt.more {w0 w : World} {b jb pb mb sb gb : Nat} {Z : Nat → Prop} {n kp q : Nat} {L : List ByteArray} {A : List (Nat × Nat)} {hn mw : Nat} {Vw : Nat → Vol} {Tw : Nat → Bool} {m : Nat} {V : Nat → Vol} {T : Nat → Bool} {op : Bool} (h : VSt w0 w b jb pb mb sb gb Z n kp q op L A hn mw Vw Tw m V T) {w' : World} {Y : Nat → Prop} (hb : Below w.heap.size w w') (hy : ∀ x, Y x → Z x ∨ (w.heap.size ≤ x ∧ x < w'.heap.size)) : VSt w0 w' b jb pb mb sb gb Y n kp q op L A hn mw Vw Tw m V T := by
  obtain ⟨S, Mw, Mn, tb, h1, h2, h3, h4, h5⟩ := h
  refine ⟨S, Mw, Mn, tb, ⟨h1.bg.more hb (fun x q => ?_) (.inl (.inl rfl)), h1.st.below hb h1.st.lt, .inl (.inr rfl), h1.n88⟩, h2, h3, h4, h5.below hb h5.lt⟩
  rcases q with q | q | q
  · exact .inl (.inl q)
  · exact .inl (.inr (.inl q))
  · exact (hy x q).imp_left (fun r => .inr (.inr r))
theorem VSt.less {w0 w : World} {b jb pb mb sb gb : Nat} {Z : Nat → Prop} {n kp q : Nat} {L : List ByteArray} {A : List (Nat × Nat)} {hn mw : Nat} {Vw : Nat → Vol} {Tw : Nat → Bool} {m : Nat} {V : Nat → Vol} {T : Nat → Bool} {op : Bool} (h : VSt w0 w b jb pb mb sb gb Z n kp q op L A hn mw Vw Tw m V T) {Y : Nat → Prop} (hy : ∀ x, Y x → Z x) : VSt w0 w b jb pb mb sb gb Y n kp q op L A hn mw Vw Tw m V T := h.more (Below.refl _ _) (fun x q => .inl (hy x q))
theorem VSt.room {w0 w : World} {b jb pb mb sb gb : Nat} {Z : Nat → Prop} {n kp q : Nat} {L : List ByteArray} {A : List (Nat × Nat)} {hn mw : Nat} {Vw : Nat → Vol} {Tw : Nat → Bool} {m : Nat} {V : Nat → Vol} {T : Nat → Bool} {op : Bool} (h : VSt w0 w b jb pb mb sb gb Z n kp q op L A hn mw Vw Tw m V T) {q' : Nat} (hq : q ≤ q') : VSt w0 w b jb pb mb sb gb Z n kp q' op L A hn mw Vw Tw m V T := by
  obtain ⟨S, Mw, Mn, tb, h1, h2, h3, h4, h5⟩ := h
  exact ⟨S, Mw, Mn, tb, h1, ⟨h2.1, h2.2.1, Nat.le_trans h2.2.2 hq⟩, h3, h4, h5⟩
/-- A block of the law's own is written. -/
theorem VSt.poke {w0 w : World} {b jb pb mb sb gb : Nat} {Z : Nat → Prop} {n kp q : Nat} {L : List ByteArray} {A : List (Nat × Nat)} {hn mw : Nat} {Vw : Nat → Vol} {Tw : Nat → Bool} {m : Nat} {V : Nat → Vol} {T : Nat → Bool} {op : Bool} (h : VSt w0 w b jb pb mb sb gb Z n kp q op L A hn mw Vw Tw m V T) {w' : World} {g : Nat} (ho : Only (fun x => x = g) w w') (hz : Z g) (hlo : w0.heap.size ≤ g) (h1 : g ≠ mb) (h2 : g ≠ sb) (h3 : g ≠ gb) : VSt w0 w' b jb pb mb sb gb Z n kp q op L A hn mw Vw Tw m V T := by
  obtain ⟨S, Mw, Mn, tb, k1, k2, k3, k4, k5⟩ := h
  exact ⟨S, Mw, Mn, tb, k1.poke (.inr (.inr hz)) hlo h1 h2 ho, k2, k3, k4, k5.only ho (fun q => h3 q.symm)⟩
theorem xz {mb sb gb : Nat} {Z : Nat → Prop} {w w' : World} (h : Only (fun x => ¬ Xlv mb sb gb Z x) w w') : Only (fun x => ¬ Z x) w w' := h.mono (fun _ _ q r => q (.inr (.inr r)))
theorem VSt.kept {w0 w : World} {b jb pb mb sb gb : Nat} {Z : Nat → Prop} {n kp q : Nat} {L : List ByteArray} {A : List (Nat × Nat)} {hn mw : Nat} {Vw : Nat → Vol} {Tw : Nat → Bool} {m : Nat} {V : Nat → Vol} {T : Nat → Bool} {op : Bool} {S : PS} {Mw Mn : List ByteArray} {tb : Nat} (h2 : S.op = op ∧ S.keep = kp ∧ S.tx.length ≤ q) (h3 : MS Mw 19 n Tw ∧ VS Mw n mw Tw Vw) (h4 : VS Mn n m T V) (h5 : Blk w gb (Plc b pb mb sb tb) 30) {w' : World} (k : MKept w0 w b jb pb mb sb (Xlv mb sb gb Z) n S L A hn Mw Mn T w') : VSt w0 w' b jb pb mb sb gb Z n kp q op L A hn mw Vw Tw m V T ∧ Only (fun x => ¬ Z x) w w' := by
  obtain ⟨S', k1, k2, k3, k4⟩ := k
  exact ⟨⟨S', Mw, Mn, tb, k1, ⟨k2.trans h2.1, k3.2.trans h2.2.1, by rw [k3.1]; exact h2.2.2⟩, h3, h4, h5.only k4 (fun q => q (.inr (.inl rfl)))⟩, xz k4⟩
theorem VSt.chg {w0 w : World} {b jb pb mb sb gb : Nat} {Z : Nat → Prop} {n kp q : Nat} {L : List ByteArray} {A : List (Nat × Nat)} {hn mw : Nat} {Vw : Nat → Vol} {Tw : Nat → Bool} {S : PS} {Mw : List ByteArray} {tb : Nat} (h2 : S.keep = kp ∧ S.tx.length ≤ q) (h3 : MS Mw 19 n Tw ∧ VS Mw n mw Tw Vw) (h5 : Blk w gb (Plc b pb mb sb tb) 30) {w' : World} {d : Nat} {T' : Nat → Bool} {Y : Nat → ByteArray} {m' : Nat} {V' : Nat → Vol} (k : MChg w0 w b jb pb mb sb (Xlv mb sb gb Z) n S L A hn Mw d T' Y w') (h4 : ∀ N, Eqv (Sec N) Y → VS N n m' T' V') : VSt w0 w' b jb pb mb sb gb Z n kp (q + d) true L A hn mw Vw Tw m' V' T' ∧ Only (fun x => ¬ Z x) w w' := by
  obtain ⟨S', Mn', k1, k2, k3, k4, k5, k6⟩ := k
  exact ⟨⟨S', Mw, Mn', tb, k1, ⟨k2, k3.trans h2.1, by omega⟩, h3, h4 Mn' k5, h5.only k6 (fun q => q (.inr (.inl rfl)))⟩, xz k6⟩
theorem VSt.begin {w0 w : World} {b jb pb mb sb gb : Nat} {Z : Nat → Prop} {n kp q : Nat} {L : List ByteArray} {A : List (Nat × Nat)} {hn mw : Nat} {Vw : Nat → Vol} {Tw : Nat → Bool} {m : Nat} {V : Nat → Vol} {T : Nat → Bool} (h : VSt w0 w b jb pb mb sb gb Z n kp q false L A hn mw Vw Tw m V T) : Calls Tryz.prog 15 #[.pointer (some ⟨pb, 0, none⟩)] w fun e w' => e = .returned (.int .i64 0) ∧ VSt w0 w' b jb pb mb sb gb Z n kp q true L A hn mw Vw Tw m V T ∧ Only (fun x => ¬ Z x) w w' := by
  obtain ⟨S, Mw, Mn, tb, h1, ⟨h2, h2k, h2t⟩, h3, h4, h5⟩ := h
  obtain ⟨s1, s2, s3, s4⟩ := h1.bg.seen.begin
  rw [h2] at s1
  have hc := pbegin_any h1.bg.pk
  rw [show beginE S = 0 from s1] at hc
  refine hc.mono ?_
  rintro e w' ⟨rfl, K, hO⟩
  exact ⟨rfl, ⟨_, Mw, Mn, tb, h1.of (h1.bg.next K hO s2 h1.bg.ms) hO, ⟨s3, by rw [← h2k]; unfold beginS; split <;> (try split) <;> rfl, by rw [s4]; exact h2t⟩, h3, h4, h5.only hO (fun q => q (.inr (.inl rfl)))⟩, xz hO⟩
theorem VSt.commit {w0 w : World} {b jb pb mb sb gb : Nat} {Z : Nat → Prop} {n kp q : Nat} {L : List ByteArray} {A : List (Nat × Nat)} {hn mw : Nat} {Vw : Nat → Vol} {Tw : Nat → Bool} {m : Nat} {V : Nat → Vol} {T : Nat → Bool} (h : VSt w0 w b jb pb mb sb gb Z n kp q true L A hn mw Vw Tw m V T) (ha : A.length ≤ 1000000) : Calls Tryz.prog 22 #[.pointer (some ⟨pb, 0, none⟩)] w fun e w' => e = .returned (.int .i64 0) ∧ (∃ L' A', A'.length ≤ A.length + 38 ∧ VSt w0 w' b jb pb mb sb gb Z n kp 0 false L' A' ((hn + 1) % 4294967296) m V T m V T) ∧ Only (fun x => ¬ Z x) w w' := by
  obtain ⟨S, Mw, Mn, tb, h1, ⟨h2, h2k, h2t⟩, h3, h4, h5⟩ := h
  obtain ⟨s1, s2, s3⟩ := h1.bg.seen.commit h2 h1.bg.srt h1.bg.t16 h1.bg.tok
  have hc := pcommit_any h1.bg.pk (by rw [h1.bg.seen.rst.nx]; exact Nat.mod_lt _ (by decide)) (by rw [h1.bg.seen.rst.s]; exact Nat.zero_le _) (by rw [h1.bg.seen.rst.s]; show A.length ≤ _; omega)
  rw [s1] at hc
  refine hc.mono ?_
  rintro e w' ⟨rfl, K, hO⟩
  have G := h1.bg.next K hO s2 h1.bg.ms
  refine ⟨rfl, ⟨_, _, ?_, _, Mn, Mn, tb, ⟨G, h1.st.only hO (fun q => q h1.xs), h1.xs, h1.n88⟩, ⟨s3, ?_, ?_⟩, ⟨h1.bg.ms, h4⟩, h4, h5.only hO (fun q => q (.inr (.inl rfl)))⟩, xz hO⟩
  · rw [List.length_append, comA_len _ h1.bg.t16]
    exact Nat.le_refl _
  · rw [← h2k]
    exact (commit_rest h1.bg.seen.rst h2 h1.bg.seen.len (tx_good h1.bg.srt h1.bg.t16 h1.bg.tok)).2.2.2.2.1
  · rw [s2.cl s3]
    exact Nat.le_refl _
theorem VSt.abort {w0 w : World} {b jb pb mb sb gb : Nat} {Z : Nat → Prop} {n kp q : Nat} {L : List ByteArray} {A : List (Nat × Nat)} {hn mw : Nat} {Vw : Nat → Vol} {Tw : Nat → Bool} {m : Nat} {V : Nat → Vol} {T : Nat → Bool} (h : VSt w0 w b jb pb mb sb gb Z n kp q true L A hn mw Vw Tw m V T) : Calls Tryz.prog 19 #[.pointer (some ⟨pb, 0, none⟩)] w fun e w' => e = .returned (.int .i64 0) ∧ VSt w0 w' b jb pb mb sb gb Z n kp 0 false L A hn mw Vw Tw mw Vw Tw ∧ Only (fun x => ¬ Z x) w w' := by
  obtain ⟨S, Mw, Mn, tb, h1, ⟨h2, h2k, h2t⟩, h3, h4, h5⟩ := h
  have hc := pabort_any h1.bg.pk
  rw [show abortE S = 0 from by simp [abortE, h2], show abortS S = endS S from by simp [abortS, h2]] at hc
  refine hc.mono ?_
  rintro e w' ⟨rfl, K, hO⟩
  exact ⟨rfl, ⟨_, Mw, Mw, tb, ⟨h1.bg.next K hO (h1.bg.seen.back (endS S) (end_rest h1.bg.seen.rst) rfl h1.bg.seen.hok) h3.1, h1.st.only hO (fun q => q h1.xs), h1.xs, h1.n88⟩, ⟨rfl, h2k, Nat.zero_le _⟩, h3, h3.2, h5.only hO (fun q => q (.inr (.inl rfl)))⟩, xz hO⟩
theorem VSt.count {w0 w : World} {b jb pb mb sb gb : Nat} {Z : Nat → Prop} {n kp q : Nat} {L : List ByteArray} {A : List (Nat × Nat)} {hn mw : Nat} {Vw : Nat → Vol} {Tw : Nat → Bool} {m : Nat} {V : Nat → Vol} {T : Nat → Bool} {op : Bool} (h : VSt w0 w b jb pb mb sb gb Z n kp q op L A hn mw Vw Tw m V T) : Calls Tryz.prog 13 #[.pointer (some ⟨mb, 0, none⟩)] w fun e w' => e = .returned (.tuple #[.int .i64 ((lst T n).length : Int), .int .i64 0]) ∧ VSt w0 w' b jb pb mb sb gb Z n kp q op L A hn mw Vw Tw m V T ∧ Only (fun x => ¬ Z x) w w' := by
  obtain ⟨S, Mw, Mn, tb, h1, h2, h3, h4, h5⟩ := h
  refine (mcount_any h1.bg).mono ?_
  rintro e w' ⟨rfl, k⟩
  exact ⟨rfl, VSt.kept h2 h3 h4 h5 (MKept.of h1 k)⟩
theorem VSt.create_none {w0 w : World} {b jb pb mb sb gb : Nat} {Z : Nat → Prop} {n kp q : Nat} {L : List ByteArray} {A : List (Nat × Nat)} {hn mw : Nat} {Vw : Nat → Vol} {Tw : Nat → Bool} {m : Nat} {V : Nat → Vol} {T : Nat → Bool} (h : VSt w0 w b jb pb mb sb gb Z n kp q false L A hn mw Vw Tw m V T) (a v : Nat) (ha1 : 1 ≤ a) (ha8 : a ≤ 8) (hv9 : v ≤ 99) : Calls Tryz.prog 36 #[.pointer (some ⟨sb, 0, none⟩), .int .i64 (a : Int), .int .i64 (v : Int)] w fun e w' => e = .returned (.tuple #[.int .i64 0, .int .i64 61]) ∧ VSt w0 w' b jb pb mb sb gb Z n kp q false L A hn mw Vw Tw m V T ∧ Only (fun x => ¬ Z x) w w' := by
  obtain ⟨S, Mw, Mn, tb, h1, h2, h3, h4, h5⟩ := h
  refine (sCreate_none h1 h2.1 a v ha1 ha8 hv9).mono ?_
  rintro e w' ⟨rfl, k1, k2⟩
  exact ⟨rfl, VSt.kept h2 h3 h4 h5 ⟨S, k1, rfl, Tk.refl _, k2⟩⟩
theorem eqv_at {N : List ByteArray} {Y : Nat → ByteArray} (h : Eqv (Sec N) Y) (i : Nat) (hi : i < 88) : N.getD (40 + i) ByteArray.empty = Y (40 + i) := h (40 + i) (by omega) (by omega)
theorem VSt.create {w0 w : World} {b jb pb mb sb gb : Nat} {Z : Nat → Prop} {n kp q : Nat} {L : List ByteArray} {A : List (Nat × Nat)} {hn mw : Nat} {Vw : Nat → Vol} {Tw : Nat → Bool} {m : Nat} {V : Nat → Vol} {T : Nat → Bool} (h : VSt w0 w b jb pb mb sb gb Z n kp q true L A hn mw Vw Tw m V T) (hq : q ≤ 10) (a v : Nat) (ha1 : 1 ≤ a) (ha8 : a ≤ 8) (hv9 : v ≤ 99) (p : Nat) (hl : Lea T n p) : Calls Tryz.prog 36 #[.pointer (some ⟨sb, 0, none⟩), .int .i64 (a : Int), .int .i64 (v : Int)] w fun e w' => e = .returned (.tuple #[.int .i64 (p : Int), .int .i64 0]) ∧ VSt w0 w' b jb pb mb sb gb Z n kp (q + 2) true L A hn mw Vw Tw (m + 1) (ups V m (Vol.new p (100 * a + v))) (flp T p) ∧ Only (fun x => ¬ Z x) w w' := by
  obtain ⟨S, Mw, Mn, tb, h1, h2, h3, h4, h5⟩ := h
  have hn88 := h1.n88
  have hp := hl.1
  refine (sCreate h1 h2.1 a v ha1 ha8 hv9 p hl (by omega)).mono ?_
  rintro e w' ⟨rfl, k⟩
  refine ⟨rfl, VSt.chg ⟨h2.2.1, h2.2.2⟩ h3 h5 k (fun N hN => h4.create p (100 * a + v) hl.1 hl.2.1 (by omega) ?_ (fun i hi hne => ?_))⟩
  · rw [eqv_at hN p (by omega), ups_same]
  · rw [eqv_at hN i (by omega), ups_other _ _ (by omega)]
    rfl
theorem VSt.get {w0 w : World} {b jb pb mb sb gb : Nat} {Z : Nat → Prop} {n kp q : Nat} {L : List ByteArray} {A : List (Nat × Nat)} {hn mw : Nat} {Vw : Nat → Vol} {Tw : Nat → Bool} {m : Nat} {V : Nat → Vol} {T : Nat → Bool} {op : Bool} (h : VSt w0 w b jb pb mb sb gb Z n kp q op L A hn mw Vw Tw m V T) (k : Nat) (hk : k < m) (b0 : Nat) (hb0 : b0 < 60) : Calls Tryz.prog 20 #[.pointer (some ⟨sb, 0, none⟩), .int .i64 ((V k).r : Int), .int .i64 (b0 : Int)] w fun e w' => e = .returned (.tuple #[.agg #[.string (vtD ((V k).e b0)), .string (vtW ((V k).e b0))], .int .i64 (gErr ((V k).e b0))]) ∧ VSt w0 w' b jb pb mb sb gb Z n kp q op L A hn mw Vw Tw m V T ∧ Only (fun x => ¬ Z x) w w' := by
  obtain ⟨S, Mw, Mn, tb, h1, h2, h3, h4, h5⟩ := h
  refine (sGet h1 h4 k hk b0 hb0).mono ?_
  rintro e w' ⟨rfl, kk⟩
  exact ⟨rfl, VSt.kept h2 h3 h4 h5 kk⟩
/-- How many pages more a Set makes. -/
def gro (v : Vol) (b0 : Nat) : Nat := if v.lf (b0 / 3) = 0 then 1 else 0
theorem VSt.grows {w0 w : World} {b jb pb mb sb gb : Nat} {Z : Nat → Prop} {n kp q : Nat} {L : List ByteArray} {A : List (Nat × Nat)} {hn mw : Nat} {Vw : Nat → Vol} {Tw : Nat → Bool} {m : Nat} {V : Nat → Vol} {T : Nat → Bool} {op : Bool} (h : VSt w0 w b jb pb mb sb gb Z n kp q op L A hn mw Vw Tw m V T) (k : Nat) (hk : k < m) (b0 : Nat) (hb0 : b0 < 60) : Calls Tryz.prog 14 #[.pointer (some ⟨sb, 0, none⟩), .int .i64 ((V k).r : Int), .int .i64 (b0 : Int)] w fun e w' => e = .returned (.tuple #[.int .i64 (gro (V k) b0 : Int), .int .i64 0]) ∧ VSt w0 w' b jb pb mb sb gb Z n kp q op L A hn mw Vw Tw m V T ∧ Only (fun x => ¬ Z x) w w' := by
  obtain ⟨S, Mw, Mn, tb, h1, h2, h3, h4, h5⟩ := h
  refine (sGrows h1 h4 k hk b0 hb0 (gro (V k) b0) rfl).mono ?_
  rintro e w' ⟨rfl, kk⟩
  exact ⟨rfl, VSt.kept h2 h3 h4 h5 kk⟩
/-- What a change of one block leaves of the volumes. -/
def Put (V V' : Nat → Vol) (k b0 : Nat) (e : Ent) : Prop := (∀ j, (V' j).r = (V j).r) ∧ ∀ j i, (V' j).e i = if j = k ∧ i = b0 then e else (V j).e i
theorem put_of (V : Nat → Vol) (k b0 : Nat) (e : Ent) (lf : Nat → Nat) : Put V (ups V k { V k with lf := lf, e := ups (V k).e b0 e }) k b0 e := by
  refine ⟨fun j => ?_, fun j i => ?_⟩
  · by_cases q : j = k
    · subst q; rw [ups_same]
    · rw [ups_other _ _ q]
  · by_cases q : j = k
    · subst q
      rw [ups_same]
      show ups (V j).e b0 e i = _
      unfold ups
      simp
    · rw [ups_other _ _ q, if_neg (fun r => q r.1)]
theorem VSt.set {w0 w : World} {b jb pb mb sb gb : Nat} {Z : Nat → Prop} {n kp q : Nat} {L : List ByteArray} {A : List (Nat × Nat)} {hn mw : Nat} {Vw : Nat → Vol} {Tw : Nat → Bool} {m : Nat} {V : Nat → Vol} {T : Nat → Bool} (h : VSt w0 w b jb pb mb sb gb Z n kp q true L A hn mw Vw Tw m V T) (hq : q ≤ 10) (k : Nat) (hk : k < m) (b0 : Nat) (hb0 : b0 < 60) (d t : ByteArray) (hd : d.size = 32) (ht : t.size = 48) (hl : (V k).lf (b0 / 3) = 0 → ∃ p, Lea T n p) : Calls Tryz.prog 16 #[.pointer (some ⟨sb, 0, none⟩), .int .i64 ((V k).r : Int), .int .i64 (b0 : Int), .agg #[.string d, .string t]] w fun e w' => e = .returned (.tuple #[.int .i64 (gro (V k) b0 : Int), .int .i64 0]) ∧ (∃ V' T', VSt w0 w' b jb pb mb sb gb Z n kp (q + 3) true L A hn mw Vw Tw m V' T' ∧ Put V V' k b0 (some (d, t)) ∧ (lst T' n).length = (lst T n).length + gro (V k) b0) ∧ Only (fun x => ¬ Z x) w w' := by
  obtain ⟨S, Mw, Mn, tb, h1, h2, h3, h4, h5⟩ := h
  have hn88 := h1.n88
  by_cases e0 : (V k).lf (b0 / 3) = 0
  · obtain ⟨p, hp⟩ := hl e0
    have hpn := hp.1
    obtain ⟨u1, u2, u3, u4, u5⟩ := h4.root k hk
    have hpr : p ≠ (V k).r := fun q => by have h0 := hp.2.1; rw [q, u3] at h0; cases h0
    refine (sSet_new h1 h2.1 h4 k hk b0 hb0 d t hd ht e0 p hp (by omega)).mono ?_
    rintro e w' ⟨rfl, kk⟩
    obtain ⟨k1, k2⟩ := VSt.chg ⟨h2.2.1, h2.2.2⟩ h3 h5 kk (fun N hN => h4.grow k hk b0 hb0 d t (EOk.mk hd ht) e0 p hpn hp.2.1 (by rw [eqv_at hN p (by omega), ups_other _ _ (by omega), ups_same]) (by rw [eqv_at hN _ (by omega), ups_same]) (fun i hi i1 i2 => by rw [eqv_at hN i (by omega), ups_other _ _ (by omega), ups_other _ _ (by omega)]; rfl))
    refine ⟨by rw [gro, if_pos e0]; rfl, ⟨_, _, k1, put_of _ _ _ _ _, ?_⟩, k2⟩
    rw [gro, if_pos e0, flp_len' T p n hp.2.1 hpn]
  · obtain ⟨v1, v2, v3, v4⟩ := h4.leaf k hk (b0 / 3) (by omega) e0
    refine (sSet_old h1 h2.1 h4 k hk b0 hb0 d t hd ht e0 (by omega)).mono ?_
    rintro e w' ⟨rfl, kk⟩
    obtain ⟨k1, k2⟩ := VSt.chg ⟨h2.2.1, h2.2.2⟩ h3 h5 kk (fun N hN => h4.put k hk b0 hb0 (some (d, t)) (EOk.mk hd ht) e0 ⟨b0 % 3, by omega, by rw [div3, ups_same]; simp⟩ (by rw [eqv_at hN _ (by omega), ups_same]) (fun i hi i1 => by rw [eqv_at hN i (by omega), ups_other _ _ (by omega)]; rfl))
    exact ⟨by rw [gro, if_neg e0]; rfl, ⟨_, _, k1.room (by omega), put_of _ _ _ _ _, by rw [gro, if_neg e0]; rfl⟩, k2⟩
/-- How many pages fewer a Clear leaves: 1, if nothing else is mapped in the leaf. -/
def nbr (v : Vol) (b0 : Nat) : Bool := (ups v.e b0 none (3 * (b0 / 3) + 0)).isSome || ((ups v.e b0 none (3 * (b0 / 3) + 1)).isSome || (ups v.e b0 none (3 * (b0 / 3) + 2)).isSome)
def shr (v : Vol) (b0 : Nat) : Nat := if nbr v b0 then 0 else 1
theorem nbr_false {v : Vol} {b0 : Nat} (h : nbr v b0 = false) : ∀ j, j < 3 → ups v.e b0 none (3 * (b0 / 3) + j) = none := fun j hj => by
  unfold nbr at h
  rw [Bool.or_eq_false_iff, Bool.or_eq_false_iff] at h
  rcases (show j = 0 ∨ j = 1 ∨ j = 2 by omega) with rfl | rfl | rfl
  · exact Option.not_isSome_iff_eq_none.1 (by rw [h.1]; decide)
  · exact Option.not_isSome_iff_eq_none.1 (by rw [h.2.1]; decide)
  · exact Option.not_isSome_iff_eq_none.1 (by rw [h.2.2]; decide)
theorem nbr_true {v : Vol} {b0 : Nat} (h : nbr v b0 = true) : ∃ j, j < 3 ∧ ups v.e b0 none (3 * (b0 / 3) + j) ≠ none := by
  unfold nbr at h
  rw [Bool.or_eq_true, Bool.or_eq_true] at h
  rcases h with h | h | h
  · exact ⟨0, by omega, Option.isSome_iff_ne_none.1 h⟩
  · exact ⟨1, by omega, Option.isSome_iff_ne_none.1 h⟩
  · exact ⟨2, by omega, Option.isSome_iff_ne_none.1 h⟩
theorem ups_leaf (v : Vol) (b0 : Nat) (e : Ent) (j : Nat) (hj : j < 3) : ups (v.f (b0 / 3)) (b0 % 3) e j = ups v.e b0 e (3 * (b0 / 3) + j) := by
  by_cases q : j = b0 % 3
  · subst q; rw [ups_same, div3, ups_same]
  · rw [ups_other _ _ q, ups_other _ _ (by omega)]
    rfl
theorem VSt.clear {w0 w : World} {b jb pb mb sb gb : Nat} {Z : Nat → Prop} {n kp q : Nat} {L : List ByteArray} {A : List (Nat × Nat)} {hn mw : Nat} {Vw : Nat → Vol} {Tw : Nat → Bool} {m : Nat} {V : Nat → Vol} {T : Nat → Bool} (h : VSt w0 w b jb pb mb sb gb Z n kp q true L A hn mw Vw Tw m V T) (hq : q ≤ 10) (k : Nat) (hk : k < m) (b0 : Nat) (hb0 : b0 < 60) (hmp : ((V k).e b0).isSome = true) : Calls Tryz.prog 18 #[.pointer (some ⟨sb, 0, none⟩), .int .i64 ((V k).r : Int), .int .i64 (b0 : Int)] w fun e w' => e = .returned (.tuple #[.int .i64 (shr (V k) b0 : Int), .int .i64 0]) ∧ (∃ V' T', VSt w0 w' b jb pb mb sb gb Z n kp (q + 3) true L A hn mw Vw Tw m V' T' ∧ Put V V' k b0 none ∧ (lst T' n).length + shr (V k) b0 = (lst T n).length) ∧ Only (fun x => ¬ Z x) w w' := by
  obtain ⟨S, Mw, Mn, tb, h1, h2, h3, h4, h5⟩ := h
  have hn88 := h1.n88
  have e0 : (V k).lf (b0 / 3) ≠ 0 := fun q => by
    have := (h4.em k hk (b0 / 3) (by omega)).1 q (b0 % 3) (by omega)
    rw [div3] at this
    rw [this] at hmp
    cases hmp
  have hmp' : ((V k).f (b0 / 3) (b0 % 3)).isSome = true := by
    show ((V k).e (3 * (b0 / 3) + b0 % 3)).isSome = true
    rw [div3]; exact hmp
  obtain ⟨v1, v2, v3, v4⟩ := h4.leaf k hk (b0 / 3) (by omega) e0
  obtain ⟨u1, u2, u3, u4, u5⟩ := h4.root k hk
  have hL := fun j hj => ups_leaf (V k) b0 none j hj
  cases hs : nbr (V k) b0 with
  | false =>
    refine (sClear_gone h1 h2.1 h4 k hk b0 hb0 e0 hmp' (by rw [hL 0 (by omega), hL 1 (by omega), hL 2 (by omega)]; exact hs) (by omega)).mono ?_
    rintro e w' ⟨rfl, kk⟩
    obtain ⟨k1, k2⟩ := VSt.chg ⟨h2.2.1, h2.2.2⟩ h3 h5 kk (fun N hN => h4.shrink k hk b0 hb0 ((V k).lf (b0 / 3) - 1) (by omega) (nbr_false hs) (by rw [eqv_at hN _ (by omega), ups_same]) (fun i hi i1 => by rw [eqv_at hN i (by omega), ups_other _ _ (by omega)]; rfl))
    refine ⟨by rw [shr, hs]; rfl, ⟨_, _, k1.room (by omega), put_of _ _ _ _ _, ?_⟩, k2⟩
    rw [shr, hs]
    exact flp_len T _ v2 n v1
  | true =>
    refine (sClear_stay h1 h2.1 h4 k hk b0 hb0 e0 hmp' (by rw [hL 0 (by omega), hL 1 (by omega), hL 2 (by omega)]; exact hs) (by omega)).mono ?_
    rintro e w' ⟨rfl, kk⟩
    obtain ⟨k1, k2⟩ := VSt.chg ⟨h2.2.1, h2.2.2⟩ h3 h5 kk (fun N hN => h4.put k hk b0 hb0 none EOk.none e0 (nbr_true hs) (by rw [eqv_at hN _ (by omega), ups_same]) (fun i hi i1 => by rw [eqv_at hN i (by omega), ups_other _ _ (by omega)]; rfl))
    exact ⟨by rw [shr, hs]; rfl, ⟨_, _, k1.room (by omega), put_of _ _ _ _ _, by rw [shr, hs]; rfl⟩, k2⟩
/-- Behind made. -/
theorem OpnV.st {w0 w : World} {b n kp gb : Nat} {Z : Nat → Prop} {R : List ByteArray → List (Nat × Nat) → Nat → (Nat → Bool) → Prop} (h : OpnV w0 b n kp gb Z R w) {m : Nat} {V : Nat → Vol} (hv : ∀ L A n0 T, R L A n0 T → VS L n m T V) : ∃ jb pb mb sb L A n0 T, VSt w0 w b jb pb mb sb gb Z n kp 0 false L A n0 m V T m V T ∧ R L A n0 T := by
  obtain ⟨jb, pb, mb, sb, tb, S, L, A, n0, T, h1, ⟨h2, h3, h4⟩, h5, h6⟩ := h
  exact ⟨jb, pb, mb, sb, L, A, n0, T, ⟨S, L, L, tb, h1, ⟨h2, h4, by rw [h3]; exact Nat.le_refl _⟩, ⟨h1.bg.ms, hv L A n0 T h6⟩, hv L A n0 T h6, h5⟩, h6⟩
theorem VS.free {M : List ByteArray} {n m : Nat} {T : Nat → Bool} {V : Nat → Vol} (h : VS M n m T V) (hn : 21 * m < n) : ∃ p, Lea T n p := by
  rcases lea_or T n with q | q
  · exact q
  · exfalso
    obtain ⟨O, h⟩ := h
    let f : Nat → Int := fun i => match O i with | some (k, a) => ((21 * k + a : Nat) : Int) | none => 0
    have hO : ∀ i, i < n → ∃ k a, O i = some (k, a) ∧ k < m ∧ a ≤ 20 := fun i hi => by
      have hT := q i hi
      rw [h.tk i hi] at hT
      obtain ⟨⟨k, a⟩, ho⟩ := Option.isSome_iff_exists.1 hT
      cases a with
      | zero => exact ⟨k, 0, ho, (h.or i k hi ho).1, by omega⟩
      | succ l => exact ⟨k, l + 1, ho, (h.ol i k l hi ho).1, by have := (h.ol i k l hi ho).2.1; omega⟩
    have hin : ∀ i j, i < n → j < n → f i = f j → i = j := fun i j hi hj e => by
      obtain ⟨k, a, h1, h2, h3⟩ := hO i hi
      obtain ⟨k', a', g1, g2, g3⟩ := hO j hj
      have e' : 21 * k + a = 21 * k' + a' := by
        have : f i = ((21 * k + a : Nat) : Int) := by show (match O i with | some (k, a) => ((21 * k + a : Nat) : Int) | none => 0) = _; rw [h1]
        have : f j = ((21 * k' + a' : Nat) : Int) := by show (match O j with | some (k, a) => ((21 * k + a : Nat) : Int) | none => 0) = _; rw [g1]
        omega
      have hk : k = k' := by omega
      have ha : a = a' := by omega
      subst hk ha
      cases a with
      | zero => have := (h.or i k hi h1).2; have := (h.or j k hj g1).2; omega
      | succ l => have := (h.ol i k l hi h1).2.2; have := (h.ol j k l hj g1).2.2; omega
    have hnd : ((List.range n).map f).Nodup := by
      rw [List.nodup_iff_pairwise_ne, List.pairwise_map]
      refine List.Pairwise.imp_of_mem ?_ List.pairwise_lt_range
      intro a c ha hc hlt e
      have := hin a c (List.mem_range.1 ha) (List.mem_range.1 hc) e
      omega
    have hle := nodup_sub ((List.range n).map f) ((List.range (21 * m)).map (fun (i : Nat) => (i : Int))) hnd (fun x hx => by
      obtain ⟨i, hi, rfl⟩ := List.mem_map.1 hx
      obtain ⟨k, a, h1, h2, h3⟩ := hO i (List.mem_range.1 hi)
      refine List.mem_map.2 ⟨21 * k + a, List.mem_range.2 (by omega), ?_⟩
      show _ = (match O i with | some (k, a) => ((21 * k + a : Nat) : Int) | none => 0)
      rw [h1])
    simp at hle
    omega
end Go.Proofs.YtjlgbafcpoakmaaGreatDoor

namespace Go.Proofs.YtjlgbafcpoakmaaGreatDoor
open Go.RowKit Go.Maps Go.Sort Go.Shelf
def V0 : Nat → Vol := fun _ => Vol.new 0 0
def Tb (i : Nat) : Nat → Bool := fun x => decide (x < i)
theorem Tb_0 : (fun _ => false : Nat → Bool) = Tb 0 := by funext x; simp [Tb]
theorem Tb_lea (i n : Nat) (h : i < n) : Lea (Tb i) n i := ⟨h, by simp [Tb], fun j hj => by simp [Tb, hj]⟩
theorem Tb_flp (i : Nat) : flp (Tb i) i = Tb (i + 1) := by
  funext x
  unfold flp Tb
  by_cases e : x = i
  · subst e; simp
  · rw [if_neg e]
    by_cases h : x < i
    · rw [decide_eq_true h, decide_eq_true (by omega)]
    · rw [decide_eq_false h, decide_eq_false (by omega)]
set_option maxRecDepth 100000 in
set_option maxHeartbeats 2000000 in
theorem known10_any (w : World) (hE : ETy w) : Calls Tryz.prog 8 #[] w fun e w' => e = .returned (.bool true) ∧ Below w.heap.size w w' := by
  obtain ⟨gb, hgb⟩ : ∃ q, w.heap.size = q := ⟨_, rfl⟩
  obtain ⟨x1, hx1⟩ : ∃ q, w.alloc (.cells #[.pointer none, .pointer none, .pointer none, .pointer none, .pointer none] 30) = q := ⟨_, rfl⟩
  have B1 : Blk x1 gb #[.pointer none, .pointer none, .pointer none, .pointer none, .pointer none] 30 := by rw [← hx1, ← hgb]; exact Blk.new w _ _
  have hb1 : Below w.heap.size w x1 := by rw [← hx1]; exact (Below.refl _ w).alloc (Nat.le_refl _) _
  have HMD := hide (made_any (w0 := w) (w := x1) (n := 20) (kp := 4) (Z := fun _ => False) hb1 hE (by decide) (by decide) (by decide) (by rw [hgb]; exact Nat.le_refl _) B1 (fun x q => q.elim))
  simp only [Int.cast_ofNat_Int] at HMD
  have HEN := hide (fun W => entry_any 3 ⟨by decide, by decide⟩ W)
  have HDS := hide (And.intro (eD_size 3) (eW_size 3))
  generalize eD 3 = ed at *
  generalize eW 3 = ew at *
  clear B1 hb1 hE
  go_enter Tryz.func8, Tryz.ntmps8
  go_wp2_with fail
  refine (unhide HMD).mono ?_
  rintro e x2 ⟨rfl, b, hOp⟩
  obtain ⟨jb, pb, mb, sb, L, A, n0, T, V2, hT, -, hA⟩ := hOp.st (m := 0) (V := V0) (fun L A n0 T hR => by rw [hR.1]; exact VS.empty L 20 V0)
  rw [hT] at V2
  obtain ⟨c0, c1, c2, c3⟩ := V2.c
  have HCN := hide (V2.create_none 1 5 (by decide) (by decide) (by decide))
  simp only [Int.cast_ofNat_Int] at HCN
  clear V2 hOp HMD hx1 hT hA
  go_wp2_with fail
  refine (unhide HCN).mono ?_
  rintro e x3 ⟨rfl, V3, -⟩
  obtain ⟨c0, c1, c2, c3⟩ := V3.c
  have HBE := hide V3.begin
  clear V3 HCN
  go_wp2_with fail
  refine (unhide HBE).mono ?_
  rintro e x4 ⟨rfl, V4, -⟩
  obtain ⟨c0, c1, c2, c3⟩ := V4.c
  have HCR := hide (V4.create (by decide) 1 5 (by decide) (by decide) (by decide) 0 ⟨by decide, rfl, fun i hi => absurd hi (by omega)⟩)
  simp only [Int.cast_ofNat_Int] at HCR
  clear V4 HBE
  go_wp2_with fail
  refine (unhide HCR).mono ?_
  rintro e x5 ⟨rfl, hV5, -⟩
  have hr5 : (ups V0 0 (Vol.new 0 (100 * 1 + 5)) 0).r = 0 := by rw [ups_same]; rfl
  have he5 : ∀ i, (ups V0 0 (Vol.new 0 (100 * 1 + 5)) 0).e i = none := fun i => by rw [ups_same]; rfl
  have hg5 : gro (ups V0 0 (Vol.new 0 (100 * 1 + 5)) 0) 7 = 1 := by rw [ups_same]; rfl
  have hl5 : ∃ p, Lea (flp (fun _ => false) 0) 20 p := by rw [Tb_0, Tb_flp]; exact ⟨1, Tb_lea 1 20 (by decide)⟩
  generalize ups V0 0 (Vol.new 0 (100 * 1 + 5)) = V5 at *
  obtain ⟨c0, c1, c2, c3⟩ := hV5.c
  have X5 := hide (show VSt w x5.drew b jb pb mb sb gb (fun _ => False) 20 4 (0 + 2) true L A n0 0 V0 (fun _ => false) (0 + 1) V5 (flp (fun _ => false) 0) from hV5.below ((Below.refl _ x5).drew))
  have HS5 := hide (show x5.cell? ⟨gb, 3, none⟩ = some (.pointer (some ⟨sb, 0, none⟩)) from c3)
  have HF5 := hide (And.intro hr5 (And.intro he5 (And.intro hg5 hl5)))
  clear hV5 HCR hr5 he5 hg5 hl5 c0 c1 c2
  go_wp2
  refine wp_region_held_drew (S := fun w' => w'.cell? ⟨gb, 3, none⟩ = some (.pointer (some ⟨sb, 0, none⟩))) (by kernel_rfl) (unhide HS5) ?_
  intro hS
  generalize x5.drew = x6 at *
  refine wpAnyH_takeD 0 (some 42) (.pointer (some ⟨gb, 0, none⟩)) rfl rfl (by kernel_rfl) (by kernel_rfl) (by kernel_rfl) (fun _ _ _ h => h) (Or.inl ⟨by rfl, fun w hSw => by have q1 : _ = _ := hSw; go_simp⟩) hS ?_
  simp only [Act.put, List.setIfInBounds_toArray, List.set_cons_zero, List.set_cons_succ]
  refine wpAnyH_takeD 1 (some 43) (.pointer (some ⟨gb, 0, none⟩)) rfl rfl (by kernel_rfl) (by kernel_rfl) (by kernel_rfl) (fun _ _ _ h => h) (Or.inl ⟨by rfl, fun w hSw => by have q1 : _ = _ := hSw; go_simp⟩) hS ?_
  simp only [Act.put, List.setIfInBounds_toArray, List.set_cons_zero, List.set_cons_succ]
  refine wpAnyH_takeD 2 (some 44) (.pointer (some ⟨gb, 3, none⟩)) rfl rfl (by kernel_rfl) (by kernel_rfl) (by kernel_rfl) (fun _ _ _ h => h) (Or.inl ⟨by rfl, fun w hSw => by have q1 : _ = _ := hSw; go_simp⟩) hS ?_
  simp only [Act.put, List.setIfInBounds_toArray, List.set_cons_zero, List.set_cons_succ]
  refine wpAnyH_takeD 3 (some 45) (.pointer (some ⟨sb, 0, none⟩)) rfl rfl (by kernel_rfl) (by kernel_rfl) (by kernel_rfl) (fun _ _ _ h => h) (Or.inl ⟨by rfl, fun w hSw => by have q1 : _ = _ := hSw; go_simp⟩) hS ?_
  simp only [Act.put, List.setIfInBounds_toArray, List.set_cons_zero, List.set_cons_succ]
  refine wpAnyH_takeD 4 (some 46) (.int .i64 0) rfl rfl (by kernel_rfl) (by kernel_rfl) (by kernel_rfl) (fun _ _ _ h => h) (Or.inl ⟨by rfl, fun w hSw => by have q1 : _ = _ := hSw; go_simp⟩) hS ?_
  simp only [Act.put, List.setIfInBounds_toArray, List.set_cons_zero, List.set_cons_succ]
  refine wpAnyH_ready (rs := [5]) (by kernel_rfl) (by simp) ?_
  refine AllReadyH.cons rfl (fun K hK => ?_) AllReadyH.nil
  simp only [List.getElem_toArray, List.getElem_cons_succ, List.getElem_cons_zero]
  go_simp
  refine (unhide HEN _).mono ?_
  rintro e y1 ⟨rfl, hb1⟩
  have X6 := hide ((unhide X5).below hb1)
  obtain ⟨-, -, -, c3'⟩ := (unhide X6).c
  clear hb1 X5
  refine hK.out _ _ c3' (fun hS => ?_)
  clear hK K
  refine wpAnyH_ready (rs := [6]) (by kernel_rfl) (by simp) ?_
  refine AllReadyH.cons rfl (fun K hK => ?_) AllReadyH.nil
  simp only [List.getElem_toArray, List.getElem_cons_succ, List.getElem_cons_zero]
  go_simp
  have HSE := (unhide X6).set (by decide) 0 (by decide) 7 (by decide) ed ew (unhide HDS).1 (unhide HDS).2 (fun _ => (unhide HF5).2.2.2)
  rw [(unhide HF5).1, (unhide HF5).2.2.1] at HSE
  simp only [Int.cast_ofNat_Int] at HSE
  refine HSE.mono ?_
  rintro e x7 ⟨rfl, ⟨V7, T7, hV7, hP7, -⟩, -⟩
  have HX7 := hide (And.intro hV7 (And.intro (show (V7 0).r = 0 from (hP7.1 0).trans (unhide HF5).1) (And.intro (show (V7 0).e 7 = some (ed, ew) from by rw [hP7.2 0 7]; rfl) (show (V7 0).e 8 = none from by rw [hP7.2 0 8]; exact (unhide HF5).2.1 8))))
  obtain ⟨-, -, -, c3''⟩ := hV7.c
  clear hV7 hP7 HSE X6 c3'
  refine hK.out _ _ c3'' (fun hS => ?_)
  clear hK K
  refine wpAnyH_takeD 7 (some 41) (.tuple #[.int .i64 1, .int .i64 0]) rfl rfl (by kernel_rfl) (by kernel_rfl) (by kernel_rfl) (fun _ _ _ h => h) (Or.inl ⟨by rfl, fun w hSw => by have q1 : _ = _ := hSw; go_simp⟩) hS ?_
  simp only [Act.put, List.setIfInBounds_toArray, List.set_cons_zero, List.set_cons_succ]
  refine wpAnyH_takeD 8 (some 49) (.int .i64 1) rfl rfl (by kernel_rfl) (by kernel_rfl) (by kernel_rfl) (fun _ _ _ h => h) (Or.inl ⟨by rfl, fun w hSw => by have q1 : _ = _ := hSw; go_simp⟩) hS ?_
  simp only [Act.put, List.setIfInBounds_toArray, List.set_cons_zero, List.set_cons_succ]
  refine wpAnyH_takeD 9 (some 50) (.int .i64 0) rfl rfl (by kernel_rfl) (by kernel_rfl) (by kernel_rfl) (fun _ _ _ h => h) (Or.inl ⟨by rfl, fun w hSw => by have q1 : _ = _ := hSw; go_simp⟩) hS ?_
  simp only [Act.put, List.setIfInBounds_toArray, List.set_cons_zero, List.set_cons_succ]
  refine wpAnyH_takeD 10 (some 8) (.int .i64 1) rfl rfl (by kernel_rfl) (by kernel_rfl) (by kernel_rfl) (fun _ _ _ h => h) (Or.inl ⟨by rfl, fun w hSw => by have q1 : _ = _ := hSw; go_simp⟩) hS ?_
  simp only [Act.put, List.setIfInBounds_toArray, List.set_cons_zero, List.set_cons_succ]
  refine wpAnyH_takeD 11 (some 9) (.int .i64 0) rfl rfl (by kernel_rfl) (by kernel_rfl) (by kernel_rfl) (fun _ _ _ h => h) (Or.inl ⟨by rfl, fun w hSw => by have q1 : _ = _ := hSw; go_simp⟩) hS ?_
  simp only [Act.put, List.setIfInBounds_toArray, List.set_cons_zero, List.set_cons_succ]
  refine wpAnyH_done (by kernel_rfl) ?_ _
  clear hS c3 HS5
  have HG7 := hide ((unhide HX7).1.get 0 (by decide) 7 (by decide))
  rw [(unhide HX7).2.1, (unhide HX7).2.2.1] at HG7
  simp only [show vtD (some (ed, ew)) = ed from rfl, show vtW (some (ed, ew)) = ew from rfl, show gErr (some (ed, ew)) = 0 from rfl, Int.cast_ofNat_Int] at HG7
  have c3 := c3''
  clear c3''
  go_wp2_with fail
  refine (unhide HG7).mono ?_
  rintro e x8 ⟨rfl, V8, -⟩
  obtain ⟨g9, hg9⟩ : ∃ q, x8.heap.size = q := ⟨_, rfl⟩
  obtain ⟨x9, hx9⟩ : ∃ q, x8.alloc (.cells #[.string ed, .string ew] 41) = q := ⟨_, rfl⟩
  have hb9 : Below x8.heap.size x8 x9 := by rw [← hx9]; exact (Below.refl _ x8).alloc (Nat.le_refl _) _
  have B9 : Blk x9 g9 #[.string ed, .string ew] 41 := by rw [← hx9, ← hg9]; exact Blk.new x8 _ _
  have V9 := V8.more (Y := fun x => x = g9) hb9 (fun x q => .inr ⟨by omega, by rw [q]; exact B9.lt⟩)
  obtain ⟨c0, c1, c2, c3⟩ := V9.c
  have HG8 := hide (V9.get 0 (by decide) 8 (by decide))
  rw [(unhide HX7).2.1, (unhide HX7).2.2.2] at HG8
  simp only [show vtD none = ⟨#[]⟩ from rfl, show vtW none = ⟨#[]⟩ from rfl, show gErr none = 103 from rfl, Int.cast_ofNat_Int] at HG8
  have X9 := hide (And.intro B9 V9)
  clear V8 hb9 B9 V9 HG7
  go_wp2_with fail
  refine (unhide HG8).mono ?_
  rintro e x10 ⟨rfl, V10, O10⟩
  have B10 := (unhide X9).1.only O10 (fun q => q rfl)
  obtain ⟨g11, hg11⟩ : ∃ q, x10.heap.size = q := ⟨_, rfl⟩
  obtain ⟨x11, hx11⟩ : ∃ q, x10.alloc (.cells #[.string ⟨#[]⟩, .string ⟨#[]⟩] 41) = q := ⟨_, rfl⟩
  have hb11 : Below x10.heap.size x10 x11 := by rw [← hx11]; exact (Below.refl _ x10).alloc (Nat.le_refl _) _
  have B11 := B10.below hb11 B10.lt
  have HBF := hide (show Below w.heap.size w x11.drew from (V10.bel.trans (hb11.mono V10.bel.size)).drew)
  have HS11 := hide B11
  have X11 := hide (show Blk x11.drew g9 #[.string ed, .string ew] 41 from B11)
  have HX11 := hide hx11
  clear V10 O10 B10 hb11 B11 HG8 X9 c0 c1 c2 c3 hx9 hx11
  go_wp2
  rw [unhide HX11]
  refine wp_region_held_drew (S := fun w' => Blk w' g9 #[.string ed, .string ew] 41) (by kernel_rfl) (unhide HS11) ?_
  intro hS
  generalize x11.drew = x12 at *
  refine wpAnyH_takeD 0 (some 69) (.int .i64 61) rfl rfl (by kernel_rfl) (by kernel_rfl) (by kernel_rfl) (fun _ _ _ h => h) (Or.inl ⟨by rfl, fun w hSw => by clear hSw; go_simp⟩) hS ?_
  simp only [Act.put, List.setIfInBounds_toArray, List.set_cons_zero, List.set_cons_succ]
  refine wpAnyH_takeD 1 (some 70) (.bool true) rfl rfl (by kernel_rfl) (by kernel_rfl) (by kernel_rfl) (fun _ _ _ h => h) (Or.inl ⟨by rfl, fun w hSw => by clear hSw; go_simp⟩) hS ?_
  simp only [Act.put, List.setIfInBounds_toArray, List.set_cons_zero, List.set_cons_succ]
  refine wpAnyH_takeD 2 (some 71) (.bool true) rfl rfl (by kernel_rfl) (by kernel_rfl) (by kernel_rfl) (fun _ _ _ h => h) (Or.inl ⟨by rfl, fun w hSw => by clear hSw; go_simp⟩) hS ?_
  simp only [Act.put, List.setIfInBounds_toArray, List.set_cons_zero, List.set_cons_succ]
  refine wpAnyH_takeD 3 (some 72) (.int .i64 0) rfl rfl (by kernel_rfl) (by kernel_rfl) (by kernel_rfl) (fun _ _ _ h => h) (Or.inl ⟨by rfl, fun w hSw => by clear hSw; go_simp⟩) hS ?_
  simp only [Act.put, List.setIfInBounds_toArray, List.set_cons_zero, List.set_cons_succ]
  refine wpAnyH_takeD 4 (some 73) (.bool true) rfl rfl (by kernel_rfl) (by kernel_rfl) (by kernel_rfl) (fun _ _ _ h => h) (Or.inl ⟨by rfl, fun w hSw => by clear hSw; go_simp⟩) hS ?_
  simp only [Act.put, List.setIfInBounds_toArray, List.set_cons_zero, List.set_cons_succ]
  refine wpAnyH_takeD 5 (some 74) (.bool true) rfl rfl (by kernel_rfl) (by kernel_rfl) (by kernel_rfl) (fun _ _ _ h => h) (Or.inl ⟨by rfl, fun w hSw => by clear hSw; go_simp⟩) hS ?_
  simp only [Act.put, List.setIfInBounds_toArray, List.set_cons_zero, List.set_cons_succ]
  refine wpAnyH_takeD 6 (some 75) (.bool true) rfl rfl (by kernel_rfl) (by kernel_rfl) (by kernel_rfl) (fun _ _ _ h => h) (Or.inl ⟨by rfl, fun w hSw => by clear hSw; go_simp⟩) hS ?_
  simp only [Act.put, List.setIfInBounds_toArray, List.set_cons_zero, List.set_cons_succ]
  refine wpAnyH_takeD 7 (some 76) (.int .i64 0) rfl rfl (by kernel_rfl) (by kernel_rfl) (by kernel_rfl) (fun _ _ _ h => h) (Or.inl ⟨by rfl, fun w hSw => by clear hSw; go_simp⟩) hS ?_
  simp only [Act.put, List.setIfInBounds_toArray, List.set_cons_zero, List.set_cons_succ]
  refine wpAnyH_takeD 8 (some 77) (.bool true) rfl rfl (by kernel_rfl) (by kernel_rfl) (by kernel_rfl) (fun _ _ _ h => h) (Or.inl ⟨by rfl, fun w hSw => by clear hSw; go_simp⟩) hS ?_
  simp only [Act.put, List.setIfInBounds_toArray, List.set_cons_zero, List.set_cons_succ]
  refine wpAnyH_takeD 9 (some 78) (.bool true) rfl rfl (by kernel_rfl) (by kernel_rfl) (by kernel_rfl) (fun _ _ _ h => h) (Or.inl ⟨by rfl, fun w hSw => by clear hSw; go_simp⟩) hS ?_
  simp only [Act.put, List.setIfInBounds_toArray, List.set_cons_zero, List.set_cons_succ]
  refine wpAnyH_takeD 10 (some 79) (.bool true) rfl rfl (by kernel_rfl) (by kernel_rfl) (by kernel_rfl) (fun _ _ _ h => h) (Or.inl ⟨by rfl, fun w hSw => by clear hSw; go_simp⟩) hS ?_
  simp only [Act.put, List.setIfInBounds_toArray, List.set_cons_zero, List.set_cons_succ]
  refine wpAnyH_takeD 11 (some 80) (.int .i64 0) rfl rfl (by kernel_rfl) (by kernel_rfl) (by kernel_rfl) (fun _ _ _ h => h) (Or.inl ⟨by rfl, fun w hSw => by clear hSw; go_simp⟩) hS ?_
  simp only [Act.put, List.setIfInBounds_toArray, List.set_cons_zero, List.set_cons_succ]
  refine wpAnyH_takeD 12 (some 81) (.bool true) rfl rfl (by kernel_rfl) (by kernel_rfl) (by kernel_rfl) (fun _ _ _ h => h) (Or.inl ⟨by rfl, fun w hSw => by clear hSw; go_simp⟩) hS ?_
  simp only [Act.put, List.setIfInBounds_toArray, List.set_cons_zero, List.set_cons_succ]
  refine wpAnyH_takeD 13 (some 82) (.bool true) rfl rfl (by kernel_rfl) (by kernel_rfl) (by kernel_rfl) (fun _ _ _ h => h) (Or.inl ⟨by rfl, fun w hSw => by clear hSw; go_simp⟩) hS ?_
  simp only [Act.put, List.setIfInBounds_toArray, List.set_cons_zero, List.set_cons_succ]
  refine wpAnyH_takeD 14 (some 83) (.bool true) rfl rfl (by kernel_rfl) (by kernel_rfl) (by kernel_rfl) (fun _ _ _ h => h) (Or.inl ⟨by rfl, fun w hSw => by clear hSw; go_simp⟩) hS ?_
  simp only [Act.put, List.setIfInBounds_toArray, List.set_cons_zero, List.set_cons_succ]
  refine wpAnyH_takeD 15 (some 84) (.int .i64 1) rfl rfl (by kernel_rfl) (by kernel_rfl) (by kernel_rfl) (fun _ _ _ h => h) (Or.inl ⟨by rfl, fun w hSw => by clear hSw; go_simp⟩) hS ?_
  simp only [Act.put, List.setIfInBounds_toArray, List.set_cons_zero, List.set_cons_succ]
  refine wpAnyH_takeD 16 (some 85) (.bool true) rfl rfl (by kernel_rfl) (by kernel_rfl) (by kernel_rfl) (fun _ _ _ h => h) (Or.inl ⟨by rfl, fun w hSw => by clear hSw; go_simp⟩) hS ?_
  simp only [Act.put, List.setIfInBounds_toArray, List.set_cons_zero, List.set_cons_succ]
  refine wpAnyH_takeD 17 (some 86) (.bool true) rfl rfl (by kernel_rfl) (by kernel_rfl) (by kernel_rfl) (fun _ _ _ h => h) (Or.inl ⟨by rfl, fun w hSw => by clear hSw; go_simp⟩) hS ?_
  simp only [Act.put, List.setIfInBounds_toArray, List.set_cons_zero, List.set_cons_succ]
  refine wpAnyH_takeD 18 (some 87) (.bool true) rfl rfl (by kernel_rfl) (by kernel_rfl) (by kernel_rfl) (fun _ _ _ h => h) (Or.inl ⟨by rfl, fun w hSw => by clear hSw; go_simp⟩) hS ?_
  simp only [Act.put, List.setIfInBounds_toArray, List.set_cons_zero, List.set_cons_succ]
  refine wpAnyH_takeD 19 (some 88) (.int .i64 0) rfl rfl (by kernel_rfl) (by kernel_rfl) (by kernel_rfl) (fun _ _ _ h => h) (Or.inl ⟨by rfl, fun w hSw => by clear hSw; go_simp⟩) hS ?_
  simp only [Act.put, List.setIfInBounds_toArray, List.set_cons_zero, List.set_cons_succ]
  refine wpAnyH_takeD 20 (some 89) (.bool true) rfl rfl (by kernel_rfl) (by kernel_rfl) (by kernel_rfl) (fun _ _ _ h => h) (Or.inl ⟨by rfl, fun w hSw => by clear hSw; go_simp⟩) hS ?_
  simp only [Act.put, List.setIfInBounds_toArray, List.set_cons_zero, List.set_cons_succ]
  refine wpAnyH_takeD 21 (some 90) (.bool true) rfl rfl (by kernel_rfl) (by kernel_rfl) (by kernel_rfl) (fun _ _ _ h => h) (Or.inl ⟨by rfl, fun w hSw => by clear hSw; go_simp⟩) hS ?_
  simp only [Act.put, List.setIfInBounds_toArray, List.set_cons_zero, List.set_cons_succ]
  refine wpAnyH_takeD 22 (some 91) (.bool true) rfl rfl (by kernel_rfl) (by kernel_rfl) (by kernel_rfl) (fun _ _ _ h => h) (Or.inl ⟨by rfl, fun w hSw => by clear hSw; go_simp⟩) hS ?_
  simp only [Act.put, List.setIfInBounds_toArray, List.set_cons_zero, List.set_cons_succ]
  refine wpAnyH_takeD 23 (some 92) (.agg #[.string ed, .string ew]) rfl rfl (by kernel_rfl) (by kernel_rfl) (by kernel_rfl) (fun _ _ _ h => h) (Or.inl ⟨by rfl, fun w hSw => by have a0 : w.cell? ⟨g9, 0, none⟩ = some (.string ed) := Blk.cell hSw 0; have a1 : w.cell? ⟨g9, 1, none⟩ = some (.string ew) := Blk.cell hSw 1; clear hSw; go_simp⟩) hS ?_
  simp only [Act.put, List.setIfInBounds_toArray, List.set_cons_zero, List.set_cons_succ]
  refine wpAnyH_ready (rs := [24]) (by kernel_rfl) (by simp) ?_
  refine AllReadyH.cons rfl (fun K hK => ?_) AllReadyH.nil
  simp only [List.getElem_toArray, List.getElem_cons_succ, List.getElem_cons_zero]
  go_simp
  refine (unhide HEN _).mono ?_
  rintro e y1 ⟨rfl, hb1⟩
  have HBG := hide ((unhide HBF).trans (hb1.mono (unhide HBF).size))
  have X12 := hide ((unhide X11).below hb1 (unhide X11).lt)
  clear hb1 X11 HBF
  refine hK.out _ _ (unhide X12) (fun hS => ?_)
  clear hK K
  refine wpAnyH_takeD 25 (some 94) (.bool true) rfl rfl (by kernel_rfl) (by kernel_rfl) (by kernel_rfl) (fun _ _ _ h => h) (Or.inl ⟨by rfl, fun w hSw => by clear hSw; go_simp⟩) hS ?_
  simp only [Act.put, List.setIfInBounds_toArray, List.set_cons_zero, List.set_cons_succ]
  refine wpAnyH_takeD 26 (some 95) (.bool true) rfl rfl (by kernel_rfl) (by kernel_rfl) (by kernel_rfl) (fun _ _ _ h => h) (Or.inl ⟨by rfl, fun w hSw => by clear hSw; go_simp⟩) hS ?_
  simp only [Act.put, List.setIfInBounds_toArray, List.set_cons_zero, List.set_cons_succ]
  refine wpAnyH_takeD 27 (some 96) (.bool true) rfl rfl (by kernel_rfl) (by kernel_rfl) (by kernel_rfl) (fun _ _ _ h => h) (Or.inl ⟨by rfl, fun w hSw => by clear hSw; go_simp⟩) hS ?_
  simp only [Act.put, List.setIfInBounds_toArray, List.set_cons_zero, List.set_cons_succ]
  refine wpAnyH_takeD 28 (some 97) (.int .i64 0) rfl rfl (by kernel_rfl) (by kernel_rfl) (by kernel_rfl) (fun _ _ _ h => h) (Or.inl ⟨by rfl, fun w hSw => by clear hSw; go_simp⟩) hS ?_
  simp only [Act.put, List.setIfInBounds_toArray, List.set_cons_zero, List.set_cons_succ]
  refine wpAnyH_takeD 29 (some 98) (.bool true) rfl rfl (by kernel_rfl) (by kernel_rfl) (by kernel_rfl) (fun _ _ _ h => h) (Or.inl ⟨by rfl, fun w hSw => by clear hSw; go_simp⟩) hS ?_
  simp only [Act.put, List.setIfInBounds_toArray, List.set_cons_zero, List.set_cons_succ]
  refine wpAnyH_takeD 30 (some 99) (.bool true) rfl rfl (by kernel_rfl) (by kernel_rfl) (by kernel_rfl) (fun _ _ _ h => h) (Or.inl ⟨by rfl, fun w hSw => by clear hSw; go_simp⟩) hS ?_
  simp only [Act.put, List.setIfInBounds_toArray, List.set_cons_zero, List.set_cons_succ]
  refine wpAnyH_takeD 31 (some 100) (.bool true) rfl rfl (by kernel_rfl) (by kernel_rfl) (by kernel_rfl) (fun _ _ _ h => h) (Or.inl ⟨by rfl, fun w hSw => by clear hSw; go_simp⟩) hS ?_
  simp only [Act.put, List.setIfInBounds_toArray, List.set_cons_zero, List.set_cons_succ]
  refine wpAnyH_takeD 32 (some 101) (.int .i64 103) rfl rfl (by kernel_rfl) (by kernel_rfl) (by kernel_rfl) (fun _ _ _ h => h) (Or.inl ⟨by rfl, fun w hSw => by clear hSw; go_simp⟩) hS ?_
  simp only [Act.put, List.setIfInBounds_toArray, List.set_cons_zero, List.set_cons_succ]
  refine wpAnyH_takeD 33 (some 102) (.bool true) rfl rfl (by kernel_rfl) (by kernel_rfl) (by kernel_rfl) (fun _ _ _ h => h) (Or.inl ⟨by rfl, fun w hSw => by clear hSw; go_simp⟩) hS ?_
  simp only [Act.put, List.setIfInBounds_toArray, List.set_cons_zero, List.set_cons_succ]
  refine wpAnyH_takeD 34 (some 103) (.bool true) rfl rfl (by kernel_rfl) (by kernel_rfl) (by kernel_rfl) (fun _ _ _ h => h) (Or.inl ⟨by rfl, fun w hSw => by clear hSw; go_simp⟩) hS ?_
  simp only [Act.put, List.setIfInBounds_toArray, List.set_cons_zero, List.set_cons_succ]
  refine wpAnyH_takeD 35 (some 0) (.bool true) rfl rfl (by kernel_rfl) (by kernel_rfl) (by kernel_rfl) (fun _ _ _ h => h) (Or.inl ⟨by rfl, fun w hSw => by clear hSw; go_simp⟩) hS ?_
  simp only [Act.put, List.setIfInBounds_toArray, List.set_cons_zero]
  refine wpAnyH_done (by kernel_rfl) ?_ _
  clear hS
  go_wp2
  go_ret
  exact ⟨rfl, unhide HBG⟩
end Go.Proofs.YtjlgbafcpoakmaaGreatDoor
