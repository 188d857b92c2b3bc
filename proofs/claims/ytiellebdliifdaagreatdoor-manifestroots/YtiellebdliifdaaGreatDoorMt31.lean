import Derived.Test.YtiellebdliifdaaGreatDoorMt30
import Derived.RangeFuncOwn
namespace Go.Proofs.YtiellebdliifdaaGreatDoor
open Go.RowKit Go.Maps Go.Sort Go.Shelf
def VSt (w0 w : World) (b jb pb mb sb gb : Nat) (Z : Nat → Prop) (n kp q : Nat) (op : Bool) (L : List ByteArray) (A : List (Nat × Nat)) (hn mw : Nat) (Vw : Nat → Vol) (Tw : Nat → Bool) (m : Nat) (V : Nat → Vol) (T : Nat → Bool) : Prop :=
 ∃ S Mw Mn tb, MG w0 w b jb pb mb sb (Xlv mb sb gb Z) n S L A hn Mw Mn T ∧ (S.op = op ∧ S.keep = kp ∧ S.tx.length ≤ q) ∧ (MS Mw 19 n Tw ∧ VS Mw n mw Tw Vw) ∧ VS Mn n m T V ∧ Blk w gb (Plc b pb mb sb tb) 30
theorem VSt.c {w0 w : World} {b jb pb mb sb gb : Nat} {Z : Nat → Prop} {n kp q : Nat} {L : List ByteArray} {A : List (Nat × Nat)} {hn mw : Nat} {Vw : Nat → Vol} {Tw : Nat → Bool} {m : Nat} {V : Nat → Vol} {T : Nat → Bool} {op : Bool} (h : VSt w0 w b jb pb mb sb gb Z n kp q op L A hn mw Vw Tw m V T) : w.cell? ⟨gb, 0, none⟩ = some (.pointer (some ⟨b, 0, none⟩)) ∧ w.cell? ⟨gb, 1, none⟩ = some (.pointer (some ⟨pb, 0, none⟩)) ∧ w.cell? ⟨gb, 2, none⟩ = some (.pointer (some ⟨mb, 0, none⟩)) ∧ w.cell? ⟨gb, 3, none⟩ = some (.pointer (some ⟨sb, 0, none⟩)) := by
 obtain ⟨S, Mw, Mn, tb, h1, h2, h3, h4, h5⟩ := h
 exact ⟨h5.cell 0, h5.cell 1, h5.cell 2, h5.cell 3⟩
theorem VSt.bel {w0 w : World} {b jb pb mb sb gb : Nat} {Z : Nat → Prop} {n kp q : Nat} {L : List ByteArray} {A : List (Nat × Nat)} {hn mw : Nat} {Vw : Nat → Vol} {Tw : Nat → Bool} {m : Nat} {V : Nat → Vol} {T : Nat → Bool} {op : Bool} (h : VSt w0 w b jb pb mb sb gb Z n kp q op L A hn mw Vw Tw m V T) : Below w0.heap.size w0 w := by
 obtain ⟨S, Mw, Mn, tb, h1, h2, h3, h4, h5⟩ := h
 exact h1.bel
theorem VSt.vs {w0 w : World} {b jb pb mb sb gb : Nat} {Z : Nat → Prop} {n kp q : Nat} {L : List ByteArray} {A : List (Nat × Nat)} {hn mw : Nat} {Vw : Nat → Vol} {Tw : Nat → Bool} {m : Nat} {V : Nat → Vol} {T : Nat → Bool} {op : Bool} (h : VSt w0 w b jb pb mb sb gb Z n kp q op L A hn mw Vw Tw m V T) : ∃ M, VS M n m T V := by
 obtain ⟨S, Mw, Mn, tb, h1, h2, h3, h4, h5⟩ := h
 exact ⟨Mn, h4⟩
theorem VSt.ety {w0 w : World} {b jb pb mb sb gb : Nat} {Z : Nat → Prop} {n kp q : Nat} {L : List ByteArray} {A : List (Nat × Nat)} {hn mw : Nat} {Vw : Nat → Vol} {Tw : Nat → Bool} {m : Nat} {V : Nat → Vol} {T : Nat → Bool} {op : Bool} (h : VSt w0 w b jb pb mb sb gb Z n kp q op L A hn mw Vw Tw m V T) : ETy w := by
 obtain ⟨S, Mw, Mn, tb, h1, h2, h3, h4, h5⟩ := h
 exact h1.ety
theorem VSt.below {w0 w : World} {b jb pb mb sb gb : Nat} {Z : Nat → Prop} {n kp q : Nat} {L : List ByteArray} {A : List (Nat × Nat)} {hn mw : Nat} {Vw : Nat → Vol} {Tw : Nat → Bool} {m : Nat} {V : Nat → Vol} {T : Nat → Bool} {op : Bool} (h : VSt w0 w b jb pb mb sb gb Z n kp q op L A hn mw Vw Tw m V T) {w' : World} (hb : Below w.heap.size w w') : VSt w0 w' b jb pb mb sb gb Z n kp q op L A hn mw Vw Tw m V T := by
 obtain ⟨S, Mw, Mn, tb, h1, h2, h3, h4, h5⟩ := h
 exact ⟨S, Mw, Mn, tb, h1.below hb, h2, h3, h4, h5.below hb h5.lt⟩
theorem VSt.more {w0 w : World} {b jb pb mb sb gb : Nat} {Z : Nat → Prop} {n kp q : Nat} {L : List ByteArray} {A : List (Nat × Nat)} {hn mw : Nat} {Vw : Nat → Vol} {Tw : Nat → Bool} {m : Nat} {V : Nat → Vol} {T : Nat → Bool} {op : Bool} (h : VSt w0 w b jb pb mb sb gb Z n kp q op L A hn mw Vw Tw m V T) {w' : World} {Y : Nat → Prop} (hb : Below w.heap.size w w') (hy : ∀ x, Y x → Z x ∨ (w.heap.size ≤ x ∧ x < w'.heap.size)) : VSt w0 w' b jb pb mb sb gb Y n kp q op L A hn mw Vw Tw m V T := by
 obtain ⟨S, Mw, Mn, tb, h1, h2, h3, h4, h5⟩ := h
 refine ⟨S, Mw, Mn, tb, ⟨h1.bg.more hb (fun x q => ?_) (.inl (.inl rfl)), h1.st.below hb h1.st.lt, .inl (.inr rfl), h1.n88⟩, h2, h3, h4, h5.below hb h5.lt⟩
 rcases q with q | q | q
 ·exact .inl (.inl q)
 ·exact .inl (.inr (.inl q))
 ·exact (hy x q).imp_left (fun r => .inr (.inr r))
theorem VSt.less {w0 w : World} {b jb pb mb sb gb : Nat} {Z : Nat → Prop} {n kp q : Nat} {L : List ByteArray} {A : List (Nat × Nat)} {hn mw : Nat} {Vw : Nat → Vol} {Tw : Nat → Bool} {m : Nat} {V : Nat → Vol} {T : Nat → Bool} {op : Bool} (h : VSt w0 w b jb pb mb sb gb Z n kp q op L A hn mw Vw Tw m V T) {Y : Nat → Prop} (hy : ∀ x, Y x → Z x) : VSt w0 w b jb pb mb sb gb Y n kp q op L A hn mw Vw Tw m V T := h.more (Below.refl _ _) (fun x q => .inl (hy x q))
theorem VSt.room {w0 w : World} {b jb pb mb sb gb : Nat} {Z : Nat → Prop} {n kp q : Nat} {L : List ByteArray} {A : List (Nat × Nat)} {hn mw : Nat} {Vw : Nat → Vol} {Tw : Nat → Bool} {m : Nat} {V : Nat → Vol} {T : Nat → Bool} {op : Bool} (h : VSt w0 w b jb pb mb sb gb Z n kp q op L A hn mw Vw Tw m V T) {q' : Nat} (hq : q ≤ q') : VSt w0 w b jb pb mb sb gb Z n kp q' op L A hn mw Vw Tw m V T := by
 obtain ⟨S, Mw, Mn, tb, h1, h2, h3, h4, h5⟩ := h
 exact ⟨S, Mw, Mn, tb, h1, ⟨h2.1, h2.2.1, Nat.le_trans h2.2.2 hq⟩, h3, h4, h5⟩
theorem VSt.poke {w0 w : World} {b jb pb mb sb gb : Nat} {Z : Nat → Prop} {n kp q : Nat} {L : List ByteArray} {A : List (Nat × Nat)} {hn mw : Nat} {Vw : Nat → Vol} {Tw : Nat → Bool} {m : Nat} {V : Nat → Vol} {T : Nat → Bool} {op : Bool} (h : VSt w0 w b jb pb mb sb gb Z n kp q op L A hn mw Vw Tw m V T) {w' : World} {g : Nat} (ho : Only (fun x => x = g) w w') (hz : Z g) (hlo : w0.heap.size ≤ g) (h1 : g ≠ mb) (h2 : g ≠ sb) (h3 : g ≠ gb) : VSt w0 w' b jb pb mb sb gb Z n kp q op L A hn mw Vw Tw m V T := by
 obtain ⟨S, Mw, Mn, tb, k1, k2, k3, k4, k5⟩ := h
 exact ⟨S, Mw, Mn, tb, k1.poke (.inr (.inr hz)) hlo h1 h2 ho, k2, k3, k4, k5.only ho (fun q => h3 q.symm)⟩
theorem xz {mb sb gb : Nat} {Z : Nat → Prop} {w w' : World} (h : Only (fun x => ¬ Xlv mb sb gb Z x) w w') : Only (fun x => ¬ Z x) w w' := h.mono (fun _ _ q r => q (.inr (.inr r)))
theorem VSt.kept {w0 w : World} {b jb pb mb sb gb : Nat} {Z : Nat → Prop} {n kp q : Nat} {L : List ByteArray} {A : List (Nat × Nat)} {hn mw : Nat} {Vw : Nat → Vol} {Tw : Nat → Bool} {m : Nat} {V : Nat → Vol} {T : Nat → Bool} {op : Bool} {S : PS} {Mw Mn : List ByteArray} {tb : Nat} (h2 : S.op = op ∧ S.keep = kp ∧ S.tx.length ≤ q) (h3 : MS Mw 19 n Tw ∧ VS Mw n mw Tw Vw) (h4 : VS Mn n m T V) (h5 : Blk w gb (Plc b pb mb sb tb) 30) {w' : World} (k : MKept w0 w b jb pb mb sb (Xlv mb sb gb Z) n S L A hn Mw Mn T w') : VSt w0 w' b jb pb mb sb gb Z n kp q op L A hn mw Vw Tw m V T ∧ Only (fun x => ¬ Z x) w w' := by
 obtain ⟨S', k1, k2, k3, k4⟩ := k
 exact ⟨⟨S', Mw, Mn, tb, k1, ⟨k2.trans h2.1, k3.2.trans h2.2.1, by rw [k3.1]; exact h2.2.2⟩, h3, h4, h5.only k4 (fun q => q (.inr (.inl rfl)))⟩, xz k4⟩
theorem VSt.chg {w0 w : World} {b jb pb mb sb gb : Nat} {Z : Nat → Prop} {n kp q : Nat} {L : List ByteArray} {A : List (Nat × Nat)} {hn mw : Nat} {Vw : Nat → Vol} {Tw : Nat → Bool} {S : PS} {Mw : List ByteArray} {tb : Nat} (h2 : S.keep = kp ∧ S.tx.length ≤ q) (h3 : MS Mw 19 n Tw ∧ VS Mw n mw Tw Vw) (h5 : Blk w gb (Plc b pb mb sb tb) 30) {w' : World} {d : Nat} {T' : Nat → Bool} {Y : Nat → ByteArray} {m' : Nat} {V' : Nat → Vol} (k : MChg w0 w b jb pb mb sb (Xlv mb sb gb Z) n S L A hn Mw d T' Y w') (h4 : ∀ N, Eqv (Sec N) Y → VS N n m' T' V') : VSt w0 w' b jb pb mb sb gb Z n kp (q + d) true L A hn mw Vw Tw m' V' T' ∧ Only (fun x => ¬ Z x) w w' := by
 obtain ⟨S', Mn', k1, k2, k3, k4, k5, k6⟩ := k
 exact ⟨⟨S', Mw, Mn', tb, k1, ⟨k2, k3.trans h2.1, by omega⟩, h3, h4 Mn' k5, h5.only k6 (fun q => q (.inr (.inl rfl)))⟩, xz k6⟩
theorem VSt.begin {w0 w : World} {b jb pb mb sb gb : Nat} {Z : Nat → Prop} {n kp q : Nat} {L : List ByteArray} {A : List (Nat × Nat)} {hn mw : Nat} {Vw : Nat → Vol} {Tw : Nat → Bool} {m : Nat} {V : Nat → Vol} {T : Nat → Bool} (h : VSt w0 w b jb pb mb sb gb Z n kp q false L A hn mw Vw Tw m V T) : Calls Tryz.prog 8 #[.pointer (some ⟨pb, 0, none⟩)] w fun e w' => e = .returned (.int .i64 0) ∧ VSt w0 w' b jb pb mb sb gb Z n kp q true L A hn mw Vw Tw m V T ∧ Only (fun x => ¬ Z x) w w' := by
 obtain ⟨S, Mw, Mn, tb, h1, ⟨h2, h2k, h2t⟩, h3, h4, h5⟩ := h
 obtain ⟨s1, s2, s3, s4⟩ := h1.bg.seen.begin
 rw [h2] at s1
 have hc := pbegin_any h1.bg.pk
 rw [show beginE S = 0 from s1] at hc
 refine hc.mono ?_
 rintro e w' ⟨rfl, K, hO⟩
 exact ⟨rfl, ⟨_, Mw, Mn, tb, h1.of (h1.bg.next K hO s2 h1.bg.ms) hO, ⟨s3, by rw [← h2k]; unfold beginS; split <;> (try split) <;> rfl, by rw [s4]; exact h2t⟩, h3, h4, h5.only hO (fun q => q (.inr (.inl rfl)))⟩, xz hO⟩
theorem VSt.commit {w0 w : World} {b jb pb mb sb gb : Nat} {Z : Nat → Prop} {n kp q : Nat} {L : List ByteArray} {A : List (Nat × Nat)} {hn mw : Nat} {Vw : Nat → Vol} {Tw : Nat → Bool} {m : Nat} {V : Nat → Vol} {T : Nat → Bool} (h : VSt w0 w b jb pb mb sb gb Z n kp q true L A hn mw Vw Tw m V T) (ha : A.length ≤ 1000000) : Calls Tryz.prog 10 #[.pointer (some ⟨pb, 0, none⟩)] w fun e w' => e = .returned (.int .i64 0) ∧ (∃ L' A', A'.length ≤ A.length + 38 ∧ VSt w0 w' b jb pb mb sb gb Z n kp 0 false L' A' ((hn + 1) % 4294967296) m V T m V T) ∧ Only (fun x => ¬ Z x) w w' := by
 obtain ⟨S, Mw, Mn, tb, h1, ⟨h2, h2k, h2t⟩, h3, h4, h5⟩ := h
 obtain ⟨s1, s2, s3⟩ := h1.bg.seen.commit h2 h1.bg.srt h1.bg.t16 h1.bg.tok
 have hc := pcommit_any h1.bg.pk (by rw [h1.bg.seen.rst.nx]; exact Nat.mod_lt _ (by decide)) (by rw [h1.bg.seen.rst.s]; exact Nat.zero_le _) (by rw [h1.bg.seen.rst.s]; show A.length ≤ _; omega)
 rw [s1] at hc
 refine hc.mono ?_
 rintro e w' ⟨rfl, K, hO⟩
 have G := h1.bg.next K hO s2 h1.bg.ms
 refine ⟨rfl, ⟨_, _, ?_, _, Mn, Mn, tb, ⟨G, h1.st.only hO (fun q => q h1.xs), h1.xs, h1.n88⟩, ⟨s3, ?_, ?_⟩, ⟨h1.bg.ms, h4⟩, h4, h5.only hO (fun q => q (.inr (.inl rfl)))⟩, xz hO⟩
 ·rw [List.length_append, comA_len _ h1.bg.t16]
  exact Nat.le_refl _
 ·rw [← h2k]
  exact (commit_rest h1.bg.seen.rst h2 h1.bg.seen.len (tx_good h1.bg.srt h1.bg.t16 h1.bg.tok)).2.2.2.2.1
 ·rw [s2.cl s3]
  exact Nat.le_refl _
theorem VSt.create_none {w0 w : World} {b jb pb mb sb gb : Nat} {Z : Nat → Prop} {n kp q : Nat} {L : List ByteArray} {A : List (Nat × Nat)} {hn mw : Nat} {Vw : Nat → Vol} {Tw : Nat → Bool} {m : Nat} {V : Nat → Vol} {T : Nat → Bool} (h : VSt w0 w b jb pb mb sb gb Z n kp q false L A hn mw Vw Tw m V T) (a v : Nat) (ha1 : 1 ≤ a) (ha8 : a ≤ 8) (hv9 : v ≤ 99) : Calls Tryz.prog 16 #[.pointer (some ⟨sb, 0, none⟩), .int .i64 (a : Int), .int .i64 (v : Int)] w fun e w' => e = .returned (.tuple #[.int .i64 0, .int .i64 61]) ∧ VSt w0 w' b jb pb mb sb gb Z n kp q false L A hn mw Vw Tw m V T ∧ Only (fun x => ¬ Z x) w w' := by
 obtain ⟨S, Mw, Mn, tb, h1, h2, h3, h4, h5⟩ := h
 refine (sCreate_none h1 h2.1 a v ha1 ha8 hv9).mono ?_
 rintro e w' ⟨rfl, k1, k2⟩
 exact ⟨rfl, VSt.kept h2 h3 h4 h5 ⟨S, k1, rfl, Tk.refl _, k2⟩⟩
theorem eqv_at {N : List ByteArray} {Y : Nat → ByteArray} (h : Eqv (Sec N) Y) (i : Nat) (hi : i < 88) : N.getD (40 + i) ByteArray.empty = Y (40 + i) := h (40 + i) (by omega) (by omega)
theorem VSt.create {w0 w : World} {b jb pb mb sb gb : Nat} {Z : Nat → Prop} {n kp q : Nat} {L : List ByteArray} {A : List (Nat × Nat)} {hn mw : Nat} {Vw : Nat → Vol} {Tw : Nat → Bool} {m : Nat} {V : Nat → Vol} {T : Nat → Bool} (h : VSt w0 w b jb pb mb sb gb Z n kp q true L A hn mw Vw Tw m V T) (hq : q ≤ 10) (a v : Nat) (ha1 : 1 ≤ a) (ha8 : a ≤ 8) (hv9 : v ≤ 99) (p : Nat) (hl : Lea T n p) : Calls Tryz.prog 16 #[.pointer (some ⟨sb, 0, none⟩), .int .i64 (a : Int), .int .i64 (v : Int)] w fun e w' => e = .returned (.tuple #[.int .i64 (p : Int), .int .i64 0]) ∧ VSt w0 w' b jb pb mb sb gb Z n kp (q + 2) true L A hn mw Vw Tw (m + 1) (ups V m (Vol.new p (100 * a + v))) (flp T p) ∧ Only (fun x => ¬ Z x) w w' := by
 obtain ⟨S, Mw, Mn, tb, h1, h2, h3, h4, h5⟩ := h
 have hn88 := h1.n88
 have hp := hl.1
 refine (sCreate h1 h2.1 a v ha1 ha8 hv9 p hl (by omega)).mono ?_
 rintro e w' ⟨rfl, k⟩
 refine ⟨rfl, VSt.chg ⟨h2.2.1, h2.2.2⟩ h3 h5 k (fun N hN => h4.create p (100 * a + v) hl.1 hl.2.1 (by omega) ?_ (fun i hi hne => ?_))⟩
 ·rw [eqv_at hN p (by omega), ups_same]
 ·rw [eqv_at hN i (by omega), ups_other _ _ (by omega)]
  rfl
theorem VSt.get {w0 w : World} {b jb pb mb sb gb : Nat} {Z : Nat → Prop} {n kp q : Nat} {L : List ByteArray} {A : List (Nat × Nat)} {hn mw : Nat} {Vw : Nat → Vol} {Tw : Nat → Bool} {m : Nat} {V : Nat → Vol} {T : Nat → Bool} {op : Bool} (h : VSt w0 w b jb pb mb sb gb Z n kp q op L A hn mw Vw Tw m V T) (k : Nat) (hk : k < m) (b0 : Nat) (hb0 : b0 < 60) : Calls Tryz.prog 15 #[.pointer (some ⟨sb, 0, none⟩), .int .i64 ((V k).r : Int), .int .i64 (b0 : Int)] w fun e w' => e = .returned (.tuple #[.agg #[.string (vtD ((V k).e b0)), .string (vtW ((V k).e b0))], .int .i64 (gErr ((V k).e b0))]) ∧ VSt w0 w' b jb pb mb sb gb Z n kp q op L A hn mw Vw Tw m V T ∧ Only (fun x => ¬ Z x) w w' := by
 obtain ⟨S, Mw, Mn, tb, h1, h2, h3, h4, h5⟩ := h
 refine (sGet h1 h4 k hk b0 hb0).mono ?_
 rintro e w' ⟨rfl, kk⟩
 exact ⟨rfl, VSt.kept h2 h3 h4 h5 kk⟩
def gro (v : Vol) (b0 : Nat) : Nat := if v.lf (b0 / 3) = 0 then 1 else 0
def Put (V V' : Nat → Vol) (k b0 : Nat) (e : Ent) : Prop := (∀ j, (V' j).r = (V j).r) ∧ ∀ j i, (V' j).e i = if j = k ∧ i = b0 then e else (V j).e i
theorem put_of (V : Nat → Vol) (k b0 : Nat) (e : Ent) (lf : Nat → Nat) : Put V (ups V k { V k with lf := lf, e := ups (V k).e b0 e }) k b0 e := by
 refine ⟨fun j => ?_, fun j i => ?_⟩
 ·by_cases q : j = k
  ·subst q; rw [ups_same]
  ·rw [ups_other _ _ q]
 ·by_cases q : j = k
  ·subst q
   rw [ups_same]
   show ups (V j).e b0 e i = _
   unfold ups
   simp
  ·rw [ups_other _ _ q, if_neg (fun r => q r.1)]
theorem VSt.set {w0 w : World} {b jb pb mb sb gb : Nat} {Z : Nat → Prop} {n kp q : Nat} {L : List ByteArray} {A : List (Nat × Nat)} {hn mw : Nat} {Vw : Nat → Vol} {Tw : Nat → Bool} {m : Nat} {V : Nat → Vol} {T : Nat → Bool} (h : VSt w0 w b jb pb mb sb gb Z n kp q true L A hn mw Vw Tw m V T) (hq : q ≤ 10) (k : Nat) (hk : k < m) (b0 : Nat) (hb0 : b0 < 60) (d t : ByteArray) (hd : d.size = 32) (ht : t.size = 48) (hl : (V k).lf (b0 / 3) = 0 → ∃ p, Lea T n p) : Calls Tryz.prog 17 #[.pointer (some ⟨sb, 0, none⟩), .int .i64 ((V k).r : Int), .int .i64 (b0 : Int), .agg #[.string d, .string t]] w fun e w' => e = .returned (.tuple #[.int .i64 (gro (V k) b0 : Int), .int .i64 0]) ∧ (∃ V' T', VSt w0 w' b jb pb mb sb gb Z n kp (q + 3) true L A hn mw Vw Tw m V' T' ∧ Put V V' k b0 (some (d, t)) ∧ (lst T' n).length = (lst T n).length + gro (V k) b0) ∧ Only (fun x => ¬ Z x) w w' := by
 obtain ⟨S, Mw, Mn, tb, h1, h2, h3, h4, h5⟩ := h
 have hn88 := h1.n88
 by_cases e0 : (V k).lf (b0 / 3) = 0
 ·obtain ⟨p, hp⟩ := hl e0
  have hpn := hp.1
  obtain ⟨u1, u2, u3, u4, u5⟩ := h4.root k hk
  have hpr : p ≠ (V k).r := fun q => by have h0 := hp.2.1; rw [q, u3] at h0; cases h0
  refine (sSet_new h1 h2.1 h4 k hk b0 hb0 d t hd ht e0 p hp (by omega)).mono ?_
  rintro e w' ⟨rfl, kk⟩
  obtain ⟨k1, k2⟩ := VSt.chg ⟨h2.2.1, h2.2.2⟩ h3 h5 kk (fun N hN => h4.grow k hk b0 hb0 d t (EOk.mk hd ht) e0 p hpn hp.2.1 (by rw [eqv_at hN p (by omega), ups_other _ _ (by omega), ups_same]) (by rw [eqv_at hN _ (by omega), ups_same]) (fun i hi i1 i2 => by rw [eqv_at hN i (by omega), ups_other _ _ (by omega), ups_other _ _ (by omega)]; rfl))
  refine ⟨by rw [gro, if_pos e0]; rfl, ⟨_, _, k1, put_of _ _ _ _ _, ?_⟩, k2⟩
  rw [gro, if_pos e0, flp_len' T p n hp.2.1 hpn]
 ·obtain ⟨v1, v2, v3, v4⟩ := h4.leaf k hk (b0 / 3) (by omega) e0
  refine (sSet_old h1 h2.1 h4 k hk b0 hb0 d t hd ht e0 (by omega)).mono ?_
  rintro e w' ⟨rfl, kk⟩
  obtain ⟨k1, k2⟩ := VSt.chg ⟨h2.2.1, h2.2.2⟩ h3 h5 kk (fun N hN => h4.put k hk b0 hb0 (some (d, t)) (EOk.mk hd ht) e0 ⟨b0 % 3, by omega, by rw [div3, ups_same]; simp⟩ (by rw [eqv_at hN _ (by omega), ups_same]) (fun i hi i1 => by rw [eqv_at hN i (by omega), ups_other _ _ (by omega)]; rfl))
  exact ⟨by rw [gro, if_neg e0]; rfl, ⟨_, _, k1.room (by omega), put_of _ _ _ _ _, by rw [gro, if_neg e0]; rfl⟩, k2⟩
def nbr (v : Vol) (b0 : Nat) : Bool := (ups v.e b0 none (3 * (b0 / 3) + 0)).isSome || ((ups v.e b0 none (3 * (b0 / 3) + 1)).isSome || (ups v.e b0 none (3 * (b0 / 3) + 2)).isSome)
def shr (v : Vol) (b0 : Nat) : Nat := if nbr v b0 then 0 else 1
theorem nbr_false {v : Vol} {b0 : Nat} (h : nbr v b0 = false) : ∀ j, j < 3 → ups v.e b0 none (3 * (b0 / 3) + j) = none := fun j hj => by
 unfold nbr at h
 rw [Bool.or_eq_false_iff, Bool.or_eq_false_iff] at h
 rcases (show j = 0 ∨ j = 1 ∨ j = 2 by omega) with rfl | rfl | rfl
 ·exact Option.not_isSome_iff_eq_none.1 (by rw [h.1]; decide)
 ·exact Option.not_isSome_iff_eq_none.1 (by rw [h.2.1]; decide)
 ·exact Option.not_isSome_iff_eq_none.1 (by rw [h.2.2]; decide)
theorem nbr_true {v : Vol} {b0 : Nat} (h : nbr v b0 = true) : ∃ j, j < 3 ∧ ups v.e b0 none (3 * (b0 / 3) + j) ≠ none := by
 unfold nbr at h
 rw [Bool.or_eq_true, Bool.or_eq_true] at h
 rcases h with h | h | h
 ·exact ⟨0, by omega, Option.isSome_iff_ne_none.1 h⟩
 ·exact ⟨1, by omega, Option.isSome_iff_ne_none.1 h⟩
 ·exact ⟨2, by omega, Option.isSome_iff_ne_none.1 h⟩
theorem ups_leaf (v : Vol) (b0 : Nat) (e : Ent) (j : Nat) (hj : j < 3) : ups (v.f (b0 / 3)) (b0 % 3) e j = ups v.e b0 e (3 * (b0 / 3) + j) := by
 by_cases q : j = b0 % 3
 ·subst q; rw [ups_same, div3, ups_same]
 ·rw [ups_other _ _ q, ups_other _ _ (by omega)]
  rfl
theorem VSt.clear {w0 w : World} {b jb pb mb sb gb : Nat} {Z : Nat → Prop} {n kp q : Nat} {L : List ByteArray} {A : List (Nat × Nat)} {hn mw : Nat} {Vw : Nat → Vol} {Tw : Nat → Bool} {m : Nat} {V : Nat → Vol} {T : Nat → Bool} (h : VSt w0 w b jb pb mb sb gb Z n kp q true L A hn mw Vw Tw m V T) (hq : q ≤ 10) (k : Nat) (hk : k < m) (b0 : Nat) (hb0 : b0 < 60) (hmp : ((V k).e b0).isSome = true) : Calls Tryz.prog 25 #[.pointer (some ⟨sb, 0, none⟩), .int .i64 ((V k).r : Int), .int .i64 (b0 : Int)] w fun e w' => e = .returned (.tuple #[.int .i64 (shr (V k) b0 : Int), .int .i64 0]) ∧ (∃ V' T', VSt w0 w' b jb pb mb sb gb Z n kp (q + 3) true L A hn mw Vw Tw m V' T' ∧ Put V V' k b0 none ∧ (lst T' n).length + shr (V k) b0 = (lst T n).length) ∧ Only (fun x => ¬ Z x) w w' := by
 obtain ⟨S, Mw, Mn, tb, h1, h2, h3, h4, h5⟩ := h
 have hn88 := h1.n88
 have e0 : (V k).lf (b0 / 3) ≠ 0 := fun q => by
  have := (h4.em k hk (b0 / 3) (by omega)).1 q (b0 % 3) (by omega)
  rw [div3] at this
  rw [this] at hmp
  cases hmp
 have hmp' : ((V k).f (b0 / 3) (b0 % 3)).isSome = true := by
  show ((V k).e (3 * (b0 / 3) + b0 % 3)).isSome = true
  rw [div3]; exact hmp
 obtain ⟨v1, v2, v3, v4⟩ := h4.leaf k hk (b0 / 3) (by omega) e0
 obtain ⟨u1, u2, u3, u4, u5⟩ := h4.root k hk
 have hL := fun j hj => ups_leaf (V k) b0 none j hj
 cases hs : nbr (V k) b0 with
 | false =>
  refine (sClear_gone h1 h2.1 h4 k hk b0 hb0 e0 hmp' (by rw [hL 0 (by omega), hL 1 (by omega), hL 2 (by omega)]; exact hs) (by omega)).mono ?_
  rintro e w' ⟨rfl, kk⟩
  obtain ⟨k1, k2⟩ := VSt.chg ⟨h2.2.1, h2.2.2⟩ h3 h5 kk (fun N hN => h4.shrink k hk b0 hb0 ((V k).lf (b0 / 3) - 1) (by omega) (nbr_false hs) (by rw [eqv_at hN _ (by omega), ups_same]) (fun i hi i1 => by rw [eqv_at hN i (by omega), ups_other _ _ (by omega)]; rfl))
  refine ⟨by rw [shr, hs]; rfl, ⟨_, _, k1.room (by omega), put_of _ _ _ _ _, ?_⟩, k2⟩
  rw [shr, hs]
  exact flp_len T _ v2 n v1
 | true =>
  refine (sClear_stay h1 h2.1 h4 k hk b0 hb0 e0 hmp' (by rw [hL 0 (by omega), hL 1 (by omega), hL 2 (by omega)]; exact hs) (by omega)).mono ?_
  rintro e w' ⟨rfl, kk⟩
  obtain ⟨k1, k2⟩ := VSt.chg ⟨h2.2.1, h2.2.2⟩ h3 h5 kk (fun N hN => h4.put k hk b0 hb0 none EOk.none e0 (nbr_true hs) (by rw [eqv_at hN _ (by omega), ups_same]) (fun i hi i1 => by rw [eqv_at hN i (by omega), ups_other _ _ (by omega)]; rfl))
  exact ⟨by rw [shr, hs]; rfl, ⟨_, _, k1.room (by omega), put_of _ _ _ _ _, by rw [shr, hs]; rfl⟩, k2⟩
theorem OpnV.st {w0 w : World} {b n kp gb : Nat} {Z : Nat → Prop} {R : List ByteArray → List (Nat × Nat) → Nat → (Nat → Bool) → Prop} (h : OpnV w0 b n kp gb Z R w) {m : Nat} {V : Nat → Vol} (hv : ∀ L A n0 T, R L A n0 T → VS L n m T V) : ∃ jb pb mb sb L A n0 T, VSt w0 w b jb pb mb sb gb Z n kp 0 false L A n0 m V T m V T ∧ R L A n0 T := by
 obtain ⟨jb, pb, mb, sb, tb, S, L, A, n0, T, h1, ⟨h2, h3, h4⟩, h5, h6⟩ := h
 exact ⟨jb, pb, mb, sb, L, A, n0, T, ⟨S, L, L, tb, h1, ⟨h2, h4, by rw [h3]; exact Nat.le_refl _⟩, ⟨h1.bg.ms, hv L A n0 T h6⟩, hv L A n0 T h6, h5⟩, h6⟩
theorem VS.free {M : List ByteArray} {n m : Nat} {T : Nat → Bool} {V : Nat → Vol} (h : VS M n m T V) (hn : 21 * m < n) : ∃ p, Lea T n p := by
 rcases lea_or T n with q | q
 ·exact q
 ·exfalso
  obtain ⟨O, h⟩ := h
  let f : Nat → Int := fun i => match O i with | some (k, a) => ((21 * k + a : Nat) : Int) | none => 0
  have hO : ∀ i, i < n → ∃ k a, O i = some (k, a) ∧ k < m ∧ a ≤ 20 := fun i hi => by
   have hT := q i hi
   rw [h.tk i hi] at hT
   obtain ⟨⟨k, a⟩, ho⟩ := Option.isSome_iff_exists.1 hT
   cases a with
   | zero => exact ⟨k, 0, ho, (h.or i k hi ho).1, by omega⟩
   | succ l => exact ⟨k, l + 1, ho, (h.ol i k l hi ho).1, by have := (h.ol i k l hi ho).2.1; omega⟩
  have hin : ∀ i j, i < n → j < n → f i = f j → i = j := fun i j hi hj e => by
   obtain ⟨k, a, h1, h2, h3⟩ := hO i hi
   obtain ⟨k', a', g1, g2, g3⟩ := hO j hj
   have e' : 21 * k + a = 21 * k' + a' := by
    have : f i = ((21 * k + a : Nat) : Int) := by show (match O i with | some (k, a) => ((21 * k + a : Nat) : Int) | none => 0) = _; rw [h1]
    have : f j = ((21 * k' + a' : Nat) : Int) := by show (match O j with | some (k, a) => ((21 * k + a : Nat) : Int) | none => 0) = _; rw [g1]
    omega
   have hk : k = k' := by omega
   have ha : a = a' := by omega
   subst hk ha
   cases a with
   | zero => have := (h.or i k hi h1).2; have := (h.or j k hj g1).2; omega
   | succ l => have := (h.ol i k l hi h1).2.2; have := (h.ol j k l hj g1).2.2; omega
  have hnd : ((List.range n).map f).Nodup := by
   rw [List.nodup_iff_pairwise_ne, List.pairwise_map]
   refine List.Pairwise.imp_of_mem ?_ List.pairwise_lt_range
   intro a c ha hc hlt e
   have := hin a c (List.mem_range.1 ha) (List.mem_range.1 hc) e
   omega
  have hle := nodup_sub ((List.range n).map f) ((List.range (21 * m)).map (fun (i : Nat) => (i : Int))) hnd (fun x hx => by
   obtain ⟨i, hi, rfl⟩ := List.mem_map.1 hx
   obtain ⟨k, a, h1, h2, h3⟩ := hO i (List.mem_range.1 hi)
   refine List.mem_map.2 ⟨21 * k + a, List.mem_range.2 (by omega), ?_⟩
   show _ = (match O i with | some (k, a) => ((21 * k + a : Nat) : Int) | none => 0)
   rw [h1])
  simp at hle
  omega
end Go.Proofs.YtiellebdliifdaaGreatDoor
namespace Go.Proofs.YtiellebdliifdaaGreatDoor
open Go.RowKit Go.Maps Go.Sort Go.Shelf
def Nc (w : World) (x : Nat) : Prop := ∃ o : Obj, w.heap[x]? = some o ∧ o.isCells = false
theorem Blk.nc {w : World} {g x : Nat} {cur : Array Value} {T : TypeId} (h : Blk w g cur T) (hx : Nc w x) : x ≠ g := fun e => by
 subst e
 obtain ⟨o, h1, h2⟩ := hx
 rw [show w.heap[x]? = _ from h] at h1
 cases h1
 cases h2
theorem row_nc {w : World} {x base n : Nat} {e : TypeId} {k : Nat} {v : Value} {xs : List Value} (h : w.ownsRow base e k v n xs) (hx : Nc w x) : v.ownBlock ≠ some x := fun q => by
 rcases h.2 with ⟨h1, _⟩ | ⟨g, cap, cur, h1, _, h3, _⟩
 ·rw [h1] at q
  cases q
 ·rw [h1] at q
  have e : g = x := by simpa [Value.ownBlock] using q
  subst e
  obtain ⟨o, o1, o2⟩ := hx
  rw [h3] at o1
  cases o1
  cases o2
theorem Dk.nc {w : World} {base b x : Nat} {v : DV} {s : DSt} (h : Dk w base b v s) (hx : Nc w x) : ¬ Fd b v x := by
 rintro (q | q | q | q | q)
 ·exact h.blk.nc hx q
 ·exact row_nc h.rl hx q
 ·exact row_nc h.rn hx q
 ·exact row_nc h.rp hx q
 ·exact row_nc h.ra hx q
theorem Nc.lt {w : World} {x : Nat} (h : Nc w x) : x < w.heap.size := by
 obtain ⟨o, h1, _⟩ := h
 exact (Array.getElem?_eq_some_iff.1 h1).1
def Mps (w : World) (pb bw bv : Nat) : Prop := w.cell? ⟨pb, 3, none⟩ = some (.map (some bw)) ∧ w.cell? ⟨pb, 5, none⟩ = some (.map (some bv))
theorem PKi.mps {w0 w : World} {b jb pb : Nat} {S : PS} {X : Nat → Prop} {bw bv : Nat} {ov : Value} (K : PKi w0 w b jb pb S X bw bv ov) : Mps w pb bw bv := ⟨by rw [K.blk.cell]; rfl, by rw [K.blk.cell]; rfl⟩
theorem PK.at {w0 w : World} {b jb pb : Nat} {S : PS} {X : Nat → Prop} (h : PK w0 w b jb pb S X) {bw bv : Nat} (hm : Mps w pb bw bv) : ∃ ov, PKi w0 w b jb pb S X bw bv ov := by
 obtain ⟨bw', bv', ov, K⟩ := h
 obtain ⟨h1, h2⟩ := K.mps
 have e1 := Option.some.inj (h1.symm.trans hm.1)
 have e2 := Option.some.inj (h2.symm.trans hm.2)
 simp only [Value.map.injEq, Option.some.injEq] at e1 e2
 subst e1 e2
 exact ⟨ov, K⟩
theorem PK.maps {w0 w : World} {b jb pb : Nat} {S : PS} {X : Nat → Prop} (h : PK w0 w b jb pb S X) : ∃ bw bv, Mps w pb bw bv ∧ bw < w.heap.size ∧ bv < w.heap.size := by
 obtain ⟨bw, bv, ov, K⟩ := h
 exact ⟨bw, bv, K.mps, K.jk.lt _ (.inr (.inr (.inl rfl))), K.jk.lt _ (.inr (.inr (.inr (.inl rfl))))⟩
theorem PK.nc {w0 w : World} {b jb pb : Nat} {S : PS} {X : Nat → Prop} (h : PK w0 w b jb pb S X) {bw bv : Nat} (hm : Mps w pb bw bv) {Y : Nat → Prop} (hy : ∀ x, Y x → X x ∨ (Nc w x ∧ x ≠ bw ∧ x ≠ bv)) : PK w0 w b jb pb S Y := by
 obtain ⟨ov, K⟩ := h.at hm
 obtain ⟨v, h1, h2, h3, h4, h5, h6, h7⟩ := K.jk
 have hnp : ∀ x, Y x → ¬ Pf pb bw bv ov x := fun x hx q => by
  rcases hy x hx with r | ⟨r1, r2, r3⟩
  ·exact K.xn x r q
  ·rcases q with q | q | q | q
   ·exact K.blk.nc r1 q
   ·exact r2 q
   ·exact r3 q
   ·exact row_nc K.hn.ord r1 q
 refine ⟨bw, bv, ov, ⟨v, h1, h2, h3, h4, h5, h6, fun x hx => ?_⟩, K.blk, K.tx, K.hn, K.ne, K.lo1, K.lo2, K.lo3, hnp, K.hk, K.kp, K.t16, K.tok⟩
 rcases hx with q | q
 ·rcases hy x q with r | ⟨r1, r2, r3⟩
  ·exact h7 x (.inl r)
  ·exact ⟨h1.nc r1, Blk.nc h2 r1, r1.lt⟩
 ·exact h7 x (.inr q)
theorem Mps.only {w w' : World} {pb bw bv : Nat} (h : Mps w pb bw bv) {P : Nat → Prop} (ho : Only P w w') (hp : ¬ P pb) : Mps w' pb bw bv := by
 have hl := World.block_lt_of_cell? w _ h.1
 have hk := ho.2 pb hl hp
 exact ⟨(World.cell?_of_block (a := ⟨pb, 3, none⟩) hk).trans h.1, (World.cell?_of_block (a := ⟨pb, 5, none⟩) hk).trans h.2⟩
theorem Mps.below {w w' : World} {pb bw bv : Nat} (h : Mps w pb bw bv) (hb : Below w.heap.size w w') : Mps w' pb bw bv := h.only (Only.of_below (P := fun _ => False) hb) (fun q => q)
theorem MG.nc {w0 w : World} {b jb pb mb sb : Nat} {X : Nat → Prop} {n : Nat} {S : PS} {L : List ByteArray} {A : List (Nat × Nat)} {hn : Nat} {Mw Mn : List ByteArray} {T : Nat → Bool} (h : MG w0 w b jb pb mb sb X n S L A hn Mw Mn T) {bw bv : Nat} (hm : Mps w pb bw bv) {Y : Nat → Prop} (hy : ∀ x, Y x → X x ∨ (Nc w x ∧ x ≠ bw ∧ x ≠ bv)) (h1 : Y mb) (h2 : Y sb) : MG w0 w b jb pb mb sb Y n S L A hn Mw Mn T :=
 ⟨⟨h.bg.pk.nc hm hy, h.bg.mp, h1, h.bg.ety, h.bg.seen, h.bg.ms, h.bg.lo, h.bg.hi, h.bg.n1, h.bg.n2⟩, h.st, h2, h.n88⟩
theorem MG.npb {w0 w : World} {b jb pb mb sb : Nat} {X : Nat → Prop} {n : Nat} {S : PS} {L : List ByteArray} {A : List (Nat × Nat)} {hn : Nat} {Mw Mn : List ByteArray} {T : Nat → Bool} (h : MG w0 w b jb pb mb sb X n S L A hn Mw Mn T) : ¬ X pb := fun q => by
 obtain ⟨bw, bv, ov, K⟩ := h.bg.pk
 exact K.xn pb q (.inl rfl)
def Fen (B : Nat) (X : Nat → Prop) (w : World) : Prop := ∀ x, B ≤ x → Nc w x → X x
theorem MG.turn {w0 w : World} {b jb pb mb sb : Nat} {X : Nat → Prop} {n : Nat} {S : PS} {L : List ByteArray} {A : List (Nat × Nat)} {hn : Nat} {Mw Mn : List ByteArray} {T : Nat → Bool} (h : MG w0 w b jb pb mb sb X n S L A hn Mw Mn T) {bw bv B : Nat} (hm : Mps w pb bw bv) (hF : Fen B X w) (hB : w0.heap.size ≤ B) {w' : World} {row : Option Nat} (hg : w.grownBy w' row) (hr : ∀ r, row = some r → B ≤ r ∧ ∃ o : Obj, w.heap[r]? = some o ∧ o.isCells = false) : MG w0 w' b jb pb mb sb (fun x => X x ∨ (w.heap.size ≤ x ∧ x < w'.heap.size)) n S L A hn Mw Mn T ∧ Mps w' pb bw bv ∧ Fen B (fun x => X x ∨ (w.heap.size ≤ x ∧ x < w'.heap.size)) w' := by
 have hO : Only (fun q => row = some q) w w' := (Only.refl _ _).grown hg (fun q _ e => e)
 have hX : ∀ x, row = some x → X x := fun x q => hF x (hr x q).1 (hr x q).2
 have hmb : ¬ row = some mb := fun q => by
  have := h.bg.mp
  unfold MB at this
  exact Blk.nc this (hr mb q).2 rfl
 have hsb : ¬ row = some sb := fun q => h.st.nc (hr sb q).2 rfl
 refine ⟨⟨h.bg.poke hO (fun x q _ => hX x q) (fun x q => Nat.le_trans hB (hr x q).1) (fun x q => q) (.inl h.bg.xm) hmb, h.st.only hO hsb, .inl h.xs, h.n88⟩, hm.only hO (fun q => h.npb (hX pb q)), fun x hx hn => ?_⟩
 by_cases hl : x < w.heap.size
 ·left
  by_cases hq : row = some x
  ·exact hX x hq
  ·refine hF x hx ?_
   obtain ⟨o, h1, h2⟩ := hn
   exact ⟨o, by rw [← hO.2 x hl hq]; exact h1, h2⟩
 ·exact .inr ⟨by omega, hn.lt⟩
end Go.Proofs.YtiellebdliifdaaGreatDoor
namespace Go.Proofs.YtiellebdliifdaaGreatDoor
open Go.RowKit Go.Maps Go.Sort Go.Shelf
theorem PKi.laym {w0 w : World} {b jb pb : Nat} {S : PS} {X : Nat → Prop} {bw bv : Nat} {ov : Value} (K : PKi w0 w b jb pb S X bw bv ov) (k : Int) (hk : I64k k) (s : ByteArray) (hs : s.size ≤ maxLen) :
  Calls Tryz.prog 33 #[.pointer (some ⟨pb, 4, none⟩), .int .i64 k, .string s] w fun e w' => e = .returned (.tuple #[]) ∧ PK w0 w' b jb pb { S with h := hLay S.keep k s S.h } X ∧ Only (fun x => ¬ X x) w w' ∧ Mps w' pb bw bv := by
 refine (hlay_any w w0.heap.size pb b jb S.op bw S.keep bv ov S.hits S.mis S.lost S.h K.blk K.hn K.jk.bel.size k hk s hs K.hk K.kp).mono ?_
 rintro e w' ⟨rfl, ov', r1, r2, r3, r4⟩
 have hp1 : ¬ Hb pb bv ov bw := by
  rintro (q | q | q)
  ·exact K.tx.not_blk K.blk q.symm
  ·exact K.ne q
  ·exact K.tx.not_row K.hn.ord q
 obtain ⟨u1, u2⟩ := K.upd (r3.mono (fun x _ q => q.pf)) ov' r4 { S with h := hLay S.keep k s S.h } rfl rfl rfl rfl r1 (K.tx.only r3 hp1) r2 (hLay_len _ _ _ _) K.t16 K.tok
 exact ⟨rfl, u1, u2, by rw [r1.cell]; rfl, by rw [r1.cell]; rfl⟩
set_option maxRecDepth 100000 in
set_option maxHeartbeats 1000000 in
theorem fetchm {w0 w : World} {b jb pb : Nat} {S : PS} {X : Nat → Prop} {bw bv : Nat} {ov : Value} (K : PKi w0 w b jb pb S X bw bv ov) (i : Int) (hi : I64k i) (hT : (readT S.s i).size ≤ maxLen) :
  Calls Tryz.prog 179 #[.pointer (some ⟨pb, 0, none⟩), .int .i64 i] w fun e w' => e = .returned (.tuple #[.string (if readE S.s i = 0 then readT S.s i else ⟨#[]⟩), .int .i64 (readE S.s i)]) ∧ PK w0 w' b jb pb (if readE S.s i = 0 then missS S i else lostS S) X ∧ Only (fun x => ¬ X x) w w' ∧ Mps w' pb bw bv := by
 obtain ⟨v, hd⟩ := K.jk.dk
 have HR := hide (read_any w _ b v S.s hd K.jk.sane.same i)
 have c0 : w.cell? ⟨pb, 0, none⟩ = some (.pointer (some ⟨b, 0, none⟩)) := by rw [K.blk.cell]; rfl
 have c8 : w.cell? ⟨pb, 8, none⟩ = some (.int .i64 S.mis) := by rw [K.blk.cell]; rfl
 have c9 : w.cell? ⟨pb, 9, none⟩ = some (.bool S.lost) := by rw [K.blk.cell]; rfl
 have f8 : w.frozen? ⟨pb, 8, none⟩ = false := K.blk.frozen 8
 have f9 : w.frozen? ⟨pb, 9, none⟩ = false := K.blk.frozen 9
 by_cases he : readE S.s i = 0
 ·rw [if_pos he, if_pos he]
  rw [he] at HR ⊢
  obtain ⟨K1, hO1⟩ := K.store 8 (.int .i64 (inc S.mis)) { S with mis := inc S.mis } rfl rfl rfl rfl rfl rfl rfl
  have HL := hide (K1.laym i hi (readT S.s i) hT)
  have HI := hide (show IntKind.i64.wrap (S.mis + 1) = inc S.mis from rfl)
  have HO := hide hO1
  have HM := hide (show ({ ({ S with mis := inc S.mis } : PS) with h := hLay S.keep i (readT S.s i) S.h } : PS) = missS S i from rfl)
  clear K K1 hO1 hd hT he hi
  generalize readT S.s i = t at *
  obtain ⟨mi, hmi⟩ : ∃ m, inc S.mis = m := ⟨_, rfl⟩
  rw [hmi] at HI HO HL
  have hwr := unhide HI
  clear HI
  go_enter Tryz.func179, Tryz.ntmps179
  go_wp2_with (first
   | (go_at_call 163; refine (unhide HR).mono ?_; rintro e w' ⟨rfl, rfl⟩)
   | (go_at_call 33; refine (unhide HL).mono ?_; rintro e w' ⟨rfl, hk, ho, hmp⟩))
  go_ret2
  refine ⟨rfl, ?_, (unhide HO).trans ho (fun _ _ q => q), hmp⟩
  rw [← unhide HM, hmi]
  exact hk
 ·rw [if_neg he, if_neg he]
  have hne : (readE S.s i != 0) = true := by simpa using he
  obtain ⟨K1, hO1⟩ := K.store 9 (.bool true) (lostS S) rfl rfl rfl rfl rfl rfl rfl
  have HL := hide (And.intro (show PK w0 _ b jb pb (lostS S) X from ⟨bw, bv, ov, K1⟩) (And.intro hO1 K1.mps))
  clear K K1 hO1 hd hT he hi
  generalize readT S.s i = t at *
  generalize readE S.s i = er at *
  go_enter Tryz.func179, Tryz.ntmps179
  go_wp2_with (go_at_call 163; refine (unhide HR).mono ?_; rintro e w' ⟨rfl, rfl⟩)
  go_ret2
  exact ⟨rfl, unhide HL⟩
set_option maxRecDepth 100000 in
set_option maxHeartbeats 1000000 in
theorem preadm {w0 w : World} {b jb pb : Nat} {S : PS} {X : Nat → Prop} {bw bv : Nat} (K : PK w0 w b jb pb S X) (hmm : Mps w pb bw bv) (i : Int) (hT : (readT S.s i).size ≤ maxLen) :
  Calls Tryz.prog 142 #[.pointer (some ⟨pb, 0, none⟩), .int .i64 i] w fun e w' => e = .returned (.tuple #[.string (readP S i).1, .int .i64 (readP S i).2.1]) ∧ PK w0 w' b jb pb (readP S i).2.2 X ∧ Only (fun x => ¬ X x) w w' ∧ Mps w' pb bw bv := by
 obtain ⟨ov, K⟩ := K.at hmm
 have HMM := hide hmm
 clear hmm
 have HH := hide (K.has i)
 cases hh : hasB S.s i with
 | false =>
  rw [hh] at HH
  have HR := hide (show readP S i = (⟨#[]⟩, 41, S) from by unfold readP; rw [hh]; rfl)
  have HK := hide K
  clear K hh hT
  go_enter Tryz.func142, Tryz.ntmps142
  go_wp2_with (go_at_call 177; refine (unhide HH).mono ?_; rintro e w' ⟨rfl, rfl⟩)
  go_ret2
  rw [unhide HR]
  exact ⟨rfl, (unhide HK).same.1, (unhide HK).same.2, unhide HMM⟩
 | true =>
  rw [hh] at HH
  have hi := hasB_i64 K.jk.sane hh
  have c9 : w.cell? ⟨pb, 9, none⟩ = some (.bool S.lost) := by rw [K.blk.cell]; rfl
  have c3 : w.cell? ⟨pb, 3, none⟩ = some (.map (some bw)) := by rw [K.blk.cell]; rfl
  cases hl : S.lost with
  | true =>
   rw [hl] at c9
   have HR := hide (show readP S i = (⟨#[]⟩, 2, S) from by unfold readP; rw [hh, hl]; rfl)
   have HK := hide K
   clear K hh hT hl hi
   go_enter Tryz.func142, Tryz.ntmps142
   go_wp2_with (go_at_call 177; refine (unhide HH).mono ?_; rintro e w' ⟨rfl, rfl⟩)
   go_ret2
   rw [unhide HR]
   exact ⟨rfl, (unhide HK).same.1, (unhide HK).same.2, unhide HMM⟩
  | false =>
   rw [hl] at c9
   have hlk := (K.tx.look hi).1
   cases ht : txAt S.tx i with
   | some t =>
    rw [ht] at hlk
    simp only [Option.getD_some, Option.isSome_some] at hlk
    have HR := hide (show readP S i = (t, 0, S) from by unfold readP; rw [hh, hl, ht]; rfl)
    have HK := hide K
    clear K hh hT hl hi ht
    go_enter Tryz.func142, Tryz.ntmps142
    go_wp2_with (go_at_call 177; refine (unhide HH).mono ?_; rintro e w' ⟨rfl, rfl⟩)
    go_ret2
    rw [unhide HR]
    exact ⟨rfl, (unhide HK).same.1, (unhide HK).same.2, unhide HMM⟩
   | none =>
    rw [ht] at hlk
    simp only [Option.getD_none, Option.isSome_none] at hlk
    have HF := hide (hfind_any w _ pb b jb S.op bw S.keep bv ov S.hits S.mis S.lost S.h K.blk K.hn i hi)
    cases hf : txAt S.h i with
    | some t =>
     rw [hf] at HF
     simp only [Option.getD_some, Option.isSome_some] at HF
     have hts : t.size ≤ maxLen := by
      obtain ⟨L, hp, hm⟩ := K.hn.mp
      have := hm.look_size hi
      rw [← at_perm hm.2.nd hp i, hf] at this
      exact this
     have HR := hide (show readP S i = (t, 0, hitS S i t) from by unfold readP; rw [hh, hl, ht]; simp only [hf]; rfl)
     have c7 : w.cell? ⟨pb, 7, none⟩ = some (.int .i64 S.hits) := by rw [K.blk.cell]; rfl
     have f7 : w.frozen? ⟨pb, 7, none⟩ = false := K.blk.frozen 7
     obtain ⟨K1, hO1⟩ := K.store 7 (.int .i64 (inc S.hits)) { S with hits := inc S.hits } rfl rfl rfl rfl rfl rfl rfl
     have HL := hide (K1.laym i hi t hts)
     have HO := hide hO1
     have HM := hide (show ({ ({ S with hits := inc S.hits } : PS) with h := hLay S.keep i t S.h } : PS) = hitS S i t from rfl)
     obtain ⟨mi, hmi⟩ : ∃ m, inc S.hits = m := ⟨_, rfl⟩
     have hwr : IntKind.i64.wrap (S.hits + 1) = mi := hmi
     rw [hmi] at HO HL
     clear K K1 hO1 hh hT hl hi ht hf hts
     go_enter Tryz.func142, Tryz.ntmps142
     go_wp2_with (first
      | (go_at_call 177; refine (unhide HH).mono ?_; rintro e w' ⟨rfl, rfl⟩)
      | (go_at_call 178; refine (unhide HF).mono ?_; rintro e w' ⟨rfl, rfl⟩)
      | (go_at_call 33; refine (unhide HL).mono ?_; rintro e w' ⟨rfl, hk, ho, hmp⟩))
     go_ret2
     rw [unhide HR]
     refine ⟨rfl, ?_, (unhide HO).trans ho (fun _ _ q => q), hmp⟩
     show PK _ _ _ _ _ (hitS S i t) _
     rw [← unhide HM, hmi]
     exact hk
    | none =>
     rw [hf] at HF
     simp only [Option.getD_none, Option.isSome_none] at HF
     have HFE := hide (fetchm K i hi hT)
     have HR := hide (show readP S i = (if readE S.s i = 0 then readT S.s i else ⟨#[]⟩, readE S.s i, if readE S.s i = 0 then missS S i else lostS S) from by
      unfold readP
      rw [hh, hl, ht]
      simp only [hf]
      by_cases h0 : readE S.s i = 0
      ·simp [h0]
      ·simp [h0])
     clear K hh hT hl hi ht hf
     generalize (if readE S.s i = 0 then readT S.s i else ⟨#[]⟩) = t at *
     generalize readE S.s i = er at *
     go_enter Tryz.func142, Tryz.ntmps142
     go_wp2_with (first
      | (go_at_call 177; refine (unhide HH).mono ?_; rintro e w' ⟨rfl, rfl⟩)
      | (go_at_call 178; refine (unhide HF).mono ?_; rintro e w' ⟨rfl, rfl⟩)
      | (go_at_call 179; refine (unhide HFE).mono ?_; rintro e w' ⟨rfl, hk, ho, hmp⟩))
     go_ret2
     rw [unhide HR]
     exact ⟨rfl, hk, ho, hmp⟩
end Go.Proofs.YtiellebdliifdaaGreatDoor
