import Derived.Test.YtpcmifmgkccfnaaGreatDoorMv10
import Derived.Test.YtpcmifmgkccfnaaGreatDoorMv30
namespace Go.Proofs.YtpcmifmgkccfnaaGreatDoor
open Go.RowKit Go.Maps Go.Sort Go.Shelf
/-- The transaction's sectors, and how many are kept at hand. -/
def Tk (S' S : PS) : Prop := S'.tx = S.tx ∧ S'.keep = S.keep
theorem Tk.trans {S1 S2 S3 : PS} (h : Tk S1 S2) (k : Tk S2 S3) : Tk S1 S3 := ⟨h.1.trans k.1, h.2.trans k.2⟩
theorem Tk.refl (S : PS) : Tk S S := ⟨rfl, rfl⟩
/-- Keys of a table's pages alone. -/
def Kin (a : Nat) (tx : Tx) : Prop := ∀ p ∈ tx, (a : Int) ≤ p.1 ∧ p.1 < (a : Int) + 8
theorem kin_few {tx : Tx} {a : Nat} (hs : Srt tx) (h : Kin a tx) : tx.length ≤ 8 := by
  have h1 : (tx.map (·.1)).Nodup := List.pairwise_map.2 (hs.imp (fun q => by omega))
  have h2 := nodup_sub (tx.map (·.1)) ((List.range 8).map fun i => ((a + i : Nat) : Int)) h1 (fun x hx => by
    obtain ⟨p, hp, rfl⟩ := List.mem_map.1 hx
    obtain ⟨q1, q2⟩ := h p hp
    exact List.mem_map.2 ⟨(p.1 - (a : Int)).toNat, List.mem_range.2 (by omega), by omega⟩)
  simpa using h2
theorem kin_put {tx : Tx} {a : Nat} (h : Kin a tx) (k : Nat) (hk : k < 8) (s : ByteArray) : Kin a (txPut ((a + k : Nat) : Int) s tx) := fun p hp => by
  rcases mem_put hp with rfl | q
  · exact ⟨by show (a : Int) ≤ ((a + k : Nat) : Int); omega, by show ((a + k : Nat) : Int) < (a : Int) + 8; omega⟩
  · exact h p q
theorem room_of {S : PS} (h : S.tx.length < 16) (i : Int) : roomB S i = true := by
  unfold roomB
  rw [Bool.or_eq_true]
  exact .inr (decide_eq_true (by omega))
/-- A table over a pool whose disk lives. -/
structure TG (w0 w : World) (b jb pb tb : Nat) (X : Nat → Prop) (a cap : Nat) (S : PS) (L : List ByteArray) (A : List (Nat × Nat)) (hn : Nat) (Mw Mn : List ByteArray) (R : Nat → Rc) : Prop where
  pk : PK w0 w b jb pb S X
  bk : Blk w tb (Tbv pb a cap) 85
  xt : X tb
  ety : ETy w0
  seen : Seen S L A hn Mw Mn
  ts : TS Mn a R
  tk : Kin a S.tx
  lo : 19 ≤ a
  hi : a + 8 ≤ 128
  cp : cap ≤ 1024
theorem TG.bel {w0 w : World} {b jb pb tb : Nat} {X : Nat → Prop} {a cap : Nat} {S : PS} {L : List ByteArray} {A : List (Nat × Nat)} {hn : Nat} {Mw Mn : List ByteArray} {R : Nat → Rc} (h : TG w0 w b jb pb tb X a cap S L A hn Mw Mn R) : Below w0.heap.size w0 w := h.pk.bel
theorem TG.etw {w0 w : World} {b jb pb tb : Nat} {X : Nat → Prop} {a cap : Nat} {S : PS} {L : List ByteArray} {A : List (Nat × Nat)} {hn : Nat} {Mw Mn : List ByteArray} {R : Nat → Rc} (h : TG w0 w b jb pb tb X a cap S L A hn Mw Mn R) : ETy w := h.ety.below h.bel h.ety.lt
theorem TG.srt {w0 w : World} {b jb pb tb : Nat} {X : Nat → Prop} {a cap : Nat} {S : PS} {L : List ByteArray} {A : List (Nat × Nat)} {hn : Nat} {Mw Mn : List ByteArray} {R : Nat → Rc} (h : TG w0 w b jb pb tb X a cap S L A hn Mw Mn R) : Srt S.tx := by
  obtain ⟨bw, bv, ov, K⟩ := h.pk
  exact K.tx.2
theorem TG.few {w0 w : World} {b jb pb tb : Nat} {X : Nat → Prop} {a cap : Nat} {S : PS} {L : List ByteArray} {A : List (Nat × Nat)} {hn : Nat} {Mw Mn : List ByteArray} {R : Nat → Rc} (h : TG w0 w b jb pb tb X a cap S L A hn Mw Mn R) : S.tx.length < 16 := by have := kin_few h.srt h.tk; omega
theorem TG.ok {w0 w : World} {b jb pb tb : Nat} {X : Nat → Prop} {a cap : Nat} {S : PS} {L : List ByteArray} {A : List (Nat × Nat)} {hn : Nat} {Mw Mn : List ByteArray} {R : Nat → Rc} (h : TG w0 w b jb pb tb X a cap S L A hn Mw Mn R) : ∀ k, k < 8 → ROk (R k) := fun k hk => (h.ts k hk).2
theorem TG.c0 {w0 w : World} {b jb pb tb : Nat} {X : Nat → Prop} {a cap : Nat} {S : PS} {L : List ByteArray} {A : List (Nat × Nat)} {hn : Nat} {Mw Mn : List ByteArray} {R : Nat → Rc} (h : TG w0 w b jb pb tb X a cap S L A hn Mw Mn R) : w.cell? ⟨tb, 0, none⟩ = some (.pointer (some ⟨pb, 0, none⟩)) := by rw [h.bk.cell]; rfl
theorem TG.next {w0 w : World} {b jb pb tb : Nat} {X : Nat → Prop} {a cap : Nat} {S : PS} {L : List ByteArray} {A : List (Nat × Nat)} {hn : Nat} {Mw Mn : List ByteArray} {R : Nat → Rc} (h : TG w0 w b jb pb tb X a cap S L A hn Mw Mn R) {w' : World} {S' : PS} {L' : List ByteArray} {A' : List (Nat × Nat)} {hn' : Nat} {Mw' Mn' : List ByteArray} {R' : Nat → Rc} (K : PK w0 w' b jb pb S' X) (ho : Only (fun x => ¬ X x) w w') (hs : Seen S' L' A' hn' Mw' Mn') (ht : TS Mn' a R') (hk : Kin a S'.tx) : TG w0 w' b jb pb tb X a cap S' L' A' hn' Mw' Mn' R' :=
  ⟨K, h.bk.only ho (fun q => q h.xt), h.xt, h.ety, hs, ht, hk, h.lo, h.hi, h.cp⟩
theorem TG.below {w0 w : World} {b jb pb tb : Nat} {X : Nat → Prop} {a cap : Nat} {S : PS} {L : List ByteArray} {A : List (Nat × Nat)} {hn : Nat} {Mw Mn : List ByteArray} {R : Nat → Rc} (h : TG w0 w b jb pb tb X a cap S L A hn Mw Mn R) {w' : World} (hb : Below w.heap.size w w') : TG w0 w' b jb pb tb X a cap S L A hn Mw Mn R :=
  ⟨h.pk.below hb, h.bk.below hb h.bk.lt, h.xt, h.ety, h.seen, h.ts, h.tk, h.lo, h.hi, h.cp⟩
theorem TG.add {w0 w : World} {b jb pb tb : Nat} {X : Nat → Prop} {a cap : Nat} {S : PS} {L : List ByteArray} {A : List (Nat × Nat)} {hn : Nat} {Mw Mn : List ByteArray} {R : Nat → Rc} (h : TG w0 w b jb pb tb X a cap S L A hn Mw Mn R) (o : Obj) {w' : World} (e : w.alloc o = w') {g : Nat} (hg : w.heap.size = g) : TG w0 w' b jb pb tb (fun x => X x ∨ x = g) a cap S L A hn Mw Mn R := by
  subst e hg
  have hb : Below w.heap.size w (w.alloc o) := (Below.refl _ w).alloc (Nat.le_refl _) _
  exact ⟨h.pk.more hb (fun x q => q.imp_right (fun e => by rw [e]; exact ⟨Nat.le_refl _, by simp⟩)), h.bk.below hb h.bk.lt, .inl h.xt, h.ety, h.seen, h.ts, h.tk, h.lo, h.hi, h.cp⟩
theorem TG.more {w0 w : World} {b jb pb tb : Nat} {X : Nat → Prop} {a cap : Nat} {S : PS} {L : List ByteArray} {A : List (Nat × Nat)} {hn : Nat} {Mw Mn : List ByteArray} {R : Nat → Rc} (h : TG w0 w b jb pb tb X a cap S L A hn Mw Mn R) {w' : World} {Y : Nat → Prop} (hb : Below w.heap.size w w') (hy : ∀ x, Y x → X x ∨ (w.heap.size ≤ x ∧ x < w'.heap.size)) (ht : Y tb) : TG w0 w' b jb pb tb Y a cap S L A hn Mw Mn R := ⟨h.pk.more hb hy, h.bk.below hb h.bk.lt, ht, h.ety, h.seen, h.ts, h.tk, h.lo, h.hi, h.cp⟩
theorem TG.less {w0 w : World} {b jb pb tb : Nat} {X : Nat → Prop} {a cap : Nat} {S : PS} {L : List ByteArray} {A : List (Nat × Nat)} {hn : Nat} {Mw Mn : List ByteArray} {R : Nat → Rc} (h : TG w0 w b jb pb tb X a cap S L A hn Mw Mn R) {Y : Nat → Prop} (hy : ∀ x, Y x → X x) (ht : Y tb) : TG w0 w b jb pb tb Y a cap S L A hn Mw Mn R := ⟨h.pk.more (Below.refl _ _) (fun x q => .inl (hy x q)), h.bk, ht, h.ety, h.seen, h.ts, h.tk, h.lo, h.hi, h.cp⟩
theorem TG.poke {w0 w : World} {b jb pb tb : Nat} {X : Nat → Prop} {a cap : Nat} {S : PS} {L : List ByteArray} {A : List (Nat × Nat)} {hn : Nat} {Mw Mn : List ByteArray} {R : Nat → Rc} (h : TG w0 w b jb pb tb X a cap S L A hn Mw Mn R) {g : Nat} (hg : X g) (hlo : w0.heap.size ≤ g) (h1 : g ≠ tb) {w' : World} (ho : Only (fun x => x = g) w w') : TG w0 w' b jb pb tb X a cap S L A hn Mw Mn R :=
  ⟨h.pk.poke ho (fun x q _ => by rw [q]; exact hg) (fun x q => by rw [q]; exact hlo) (fun x q => .inl q), h.bk.only ho (fun q => h1 q.symm), h.xt, h.ety, h.seen, h.ts, h.tk, h.lo, h.hi, h.cp⟩
theorem TG.new {w0 w : World} {b jb pb tb : Nat} {X : Nat → Prop} {a cap : Nat} {S : PS} {L : List ByteArray} {A : List (Nat × Nat)} {hn : Nat} {Mw Mn : List ByteArray} {R : Nat → Rc} (h : TG w0 w b jb pb tb X a cap S L A hn Mw Mn R) {g : Nat} (hg : w.heap.size = g) : ¬ X g ∧ w0.heap.size ≤ g ∧ g ≠ tb :=
  ⟨fun q => absurd (h.pk.lt g q) (by rw [hg]; exact Nat.lt_irrefl g), by rw [← hg]; exact h.bel.size, fun q => by have := h.bk.lt; rw [hg, q] at this; exact Nat.lt_irrefl _ this⟩
/-- What a call that changes nothing leaves. -/
def TKept (w0 w : World) (b jb pb tb : Nat) (X : Nat → Prop) (a cap : Nat) (S : PS) (L : List ByteArray) (A : List (Nat × Nat)) (hn : Nat) (Mw Mn : List ByteArray) (R : Nat → Rc) (w' : World) : Prop :=
  ∃ S', TG w0 w' b jb pb tb X a cap S' L A hn Mw Mn R ∧ S'.op = S.op ∧ Tk S' S ∧ Only (fun x => ¬ X x) w w'
theorem TG.kept {w0 w : World} {b jb pb tb : Nat} {X : Nat → Prop} {a cap : Nat} {S : PS} {L : List ByteArray} {A : List (Nat × Nat)} {hn : Nat} {Mw Mn : List ByteArray} {R : Nat → Rc} (h : TG w0 w b jb pb tb X a cap S L A hn Mw Mn R) {w' : World} (hb : Below w.heap.size w w') : TKept w0 w b jb pb tb X a cap S L A hn Mw Mn R w' := ⟨S, h.below hb, rfl, Tk.refl _, Only.of_below hb⟩
theorem TKept.below {w0 w : World} {b jb pb tb : Nat} {X : Nat → Prop} {a cap : Nat} {S : PS} {L : List ByteArray} {A : List (Nat × Nat)} {hn : Nat} {Mw Mn : List ByteArray} {R : Nat → Rc} {w1 w2 : World} (h : TKept w0 w b jb pb tb X a cap S L A hn Mw Mn R w1) (hb : Below w1.heap.size w1 w2) : TKept w0 w b jb pb tb X a cap S L A hn Mw Mn R w2 := by
  obtain ⟨S', k1, k2, k3, k4⟩ := h
  exact ⟨S', k1.below hb, k2, k3, k4.trans (Only.of_below (P := fun x => ¬ X x) hb) (fun _ _ q => q)⟩
theorem TKept.trans {w0 w : World} {b jb pb tb : Nat} {X : Nat → Prop} {a cap : Nat} {S : PS} {L : List ByteArray} {A : List (Nat × Nat)} {hn : Nat} {Mw Mn : List ByteArray} {R : Nat → Rc} {w1 w2 : World} (h : TKept w0 w b jb pb tb X a cap S L A hn Mw Mn R w1) (k : ∀ S', TG w0 w1 b jb pb tb X a cap S' L A hn Mw Mn R → S'.op = S.op → Tk S' S → TKept w0 w1 b jb pb tb X a cap S' L A hn Mw Mn R w2) : TKept w0 w b jb pb tb X a cap S L A hn Mw Mn R w2 := by
  obtain ⟨S1, h1, h2, h3, h4⟩ := h
  obtain ⟨S2, k1, k2, k3, k4⟩ := k S1 h1 h2 h3
  exact ⟨S2, k1, k2.trans h2, k3.trans h3, h4.trans k4 (fun _ _ q => q)⟩
theorem TKept.less {w0 w : World} {b jb pb tb : Nat} {X : Nat → Prop} {a cap : Nat} {S : PS} {L : List ByteArray} {A : List (Nat × Nat)} {hn : Nat} {Mw Mn : List ByteArray} {R : Nat → Rc} {Y : Nat → Prop} {wz w1 : World} (h : TKept w0 w b jb pb tb X a cap S L A hn Mw Mn R w1) (ho : Only (fun x => ¬ Y x) wz w) (hy : ∀ x, Y x → X x) (ht : Y tb) : TKept w0 wz b jb pb tb Y a cap S L A hn Mw Mn R w1 := by
  obtain ⟨S1, h1, h2, h3, h6⟩ := h
  exact ⟨S1, h1.less hy ht, h2, h3, ho.trans h6 (fun x _ q r => q (hy x r))⟩
/-- What a change leaves. -/
def TChg (w0 w : World) (b jb pb tb : Nat) (X : Nat → Prop) (a cap : Nat) (S : PS) (L : List ByteArray) (A : List (Nat × Nat)) (hn : Nat) (Mw : List ByteArray) (R' : Nat → Rc) (w' : World) : Prop :=
  ∃ S' Mn', TG w0 w' b jb pb tb X a cap S' L A hn Mw Mn' R' ∧ S'.op = true ∧ S'.keep = S.keep ∧ Only (fun x => ¬ X x) w w'
theorem TChg.less {w0 w : World} {b jb pb tb : Nat} {X Y : Nat → Prop} {a cap : Nat} {S : PS} {L : List ByteArray} {A : List (Nat × Nat)} {hn : Nat} {Mw : List ByteArray} {R' : Nat → Rc} {wz w1 : World} (h : TChg w0 w b jb pb tb X a cap S L A hn Mw R' w1) (ho : Only (fun x => ¬ Y x) wz w) (hy : ∀ x, Y x → X x) (ht : Y tb) : TChg w0 wz b jb pb tb Y a cap S L A hn Mw R' w1 := by
  obtain ⟨S1, M1, h1, h2, h3, h6⟩ := h
  exact ⟨S1, M1, h1.less hy ht, h2, h3, ho.trans h6 (fun x _ q r => q (hy x r))⟩
theorem TChg.below {w0 w : World} {b jb pb tb : Nat} {X : Nat → Prop} {a cap : Nat} {S : PS} {L : List ByteArray} {A : List (Nat × Nat)} {hn : Nat} {Mw : List ByteArray} {R' : Nat → Rc} {w1 w2 : World} (h : TChg w0 w b jb pb tb X a cap S L A hn Mw R' w1) (hb : Below w1.heap.size w1 w2) : TChg w0 w b jb pb tb X a cap S L A hn Mw R' w2 := by
  obtain ⟨S1, M1, h1, h2, h3, h6⟩ := h
  exact ⟨S1, M1, h1.below hb, h2, h3, h6.trans (Only.of_below (P := fun x => ¬ X x) hb) (fun _ _ q => q)⟩
theorem TG.read {w0 w : World} {b jb pb tb : Nat} {X : Nat → Prop} {a cap : Nat} {S : PS} {L : List ByteArray} {A : List (Nat × Nat)} {hn : Nat} {Mw Mn : List ByteArray} {R : Nat → Rc} (h : TG w0 w b jb pb tb X a cap S L A hn Mw Mn R) (k : Nat) (hk : k < 8) : Calls Tryz.prog 72 #[.pointer (some ⟨pb, 0, none⟩), .int .i64 ((a + k : Nat) : Int)] w fun e w' => e = .returned (.tuple #[.string (pgR (k + 1) (R k)), .int .i64 0]) ∧ TKept w0 w b jb pb tb X a cap S L A hn Mw Mn R w' := by
  have hlo := h.lo
  have hhi := h.hi
  obtain ⟨r1, r2, r3, r4, r5⟩ := h.seen.read (a + k) (by omega) (by omega)
  have hc := pread_any h.pk ((a + k : Nat) : Int) (readT_rest h.seen.rst (a + k) (by rw [h.seen.len]; omega) h.seen.siz)
  rw [r1, r2, (h.ts k hk).1] at hc
  refine hc.mono ?_
  rintro e w' ⟨rfl, K, ho⟩
  exact ⟨rfl, _, h.next K ho r3 h.ts (by rw [r5]; exact h.tk), r4, ⟨r5, (read_rest h.seen.rst (a + k) (by rw [h.seen.len]; omega)).2.2.2.2⟩, ho⟩
theorem TG.write {w0 w : World} {b jb pb tb : Nat} {X : Nat → Prop} {a cap : Nat} {S : PS} {L : List ByteArray} {A : List (Nat × Nat)} {hn : Nat} {Mw Mn : List ByteArray} {R : Nat → Rc} (h : TG w0 w b jb pb tb X a cap S L A hn Mw Mn R) (ho : S.op = true) (k : Nat) (hk : k < 8) (r : Rc) (hr : ROk r) : Calls Tryz.prog 80 #[.pointer (some ⟨pb, 0, none⟩), .int .i64 ((a + k : Nat) : Int), .string (pgR (k + 1) r)] w fun e w' => e = .returned (.int .i64 0) ∧ TChg w0 w b jb pb tb X a cap S L A hn Mw (ups R k r) w' := by
  have hlo := h.lo
  have hhi := h.hi
  have hsz := pgR_size (k + 1) r (by omega)
  obtain ⟨r1, r2, r3, r4⟩ := h.seen.write h.srt ho (a + k) (by omega) (by omega) _ hsz (room_of h.few _)
  have hc := pwrite_any h.pk ((a + k : Nat) : Int) (pgR (k + 1) r) (by omega)
  rw [r1] at hc
  refine hc.mono ?_
  rintro e w' ⟨rfl, K, hO⟩
  have hl := h.seen.ln
  exact ⟨rfl, _, _, h.next K hO r2 (h.ts.put (by omega) k hk r hr) (by rw [r4]; exact kin_put h.tk k hk _), r3, (write_rest h.seen.rst _ _).2.2, hO⟩
set_option maxRecDepth 100000 in
set_option maxHeartbeats 2000000 in
theorem tChange_ok {w0 w : World} {b jb pb tb : Nat} {X : Nat → Prop} {a cap : Nat} {S : PS} {L : List ByteArray} {A : List (Nat × Nat)} {hn : Nat} {Mw Mn : List ByteArray} {R : Nat → Rc} (h : TG w0 w b jb pb tb X a cap S L A hn Mw Mn R) (ho : S.op = true) : Calls Tryz.prog 78 #[.pointer (some ⟨tb, 0, none⟩)] w fun e w' => e = .returned (.bool true) ∧ TG w0 w' b jb pb tb X a cap S L A hn Mw Mn R ∧ Only (fun x => ¬ X x) w w' := by
  have c0 := h.c0
  have HBG := hide (pbegin_any h.pk)
  have HM := hide h
  rw [show beginE S = 60 from by simp [beginE, ho], show beginS S = S from by simp [beginS, ho]] at HBG
  clear ho h
  go_enter Tryz.func78, Tryz.ntmps78
  go_wp2_with fail
  refine (unhide HBG).mono ?_
  rintro e x1 ⟨rfl, K1, hO1⟩
  have HF := hide (And.intro ((unhide HM).next K1 hO1 (unhide HM).seen (unhide HM).ts (unhide HM).tk) hO1)
  clear K1 hO1 HBG
  go_wp2
  go_ret
  exact ⟨rfl, (unhide HF).1, (unhide HF).2⟩
/-- The eight pages under way. -/
def Rdw (w0 w : World) (b jb pb tb : Nat) (X : Nat → Prop) (a cap : Nat) (S : PS) (L : List ByteArray) (A : List (Nat × Nat)) (hn : Nat) (Mw Mn : List ByteArray) (R : Nat → Rc) (g k : Nat) (wr : World) : Prop :=
  Blk wr g Tryz.zeroCells90 90 ∧ Blk wr (g + 1) (lC (cutR R k)).toArray 90 ∧ ∃ S', TG w0 wr b jb pb tb (fun x => (fun x => X x ∨ x = g) x ∨ x = g + 1) a cap S' L A hn Mw Mn R ∧ S'.op = S.op ∧ Tk S' S ∧ Only (fun x => ¬ X x) w wr
set_option maxRecDepth 100000 in
set_option maxHeartbeats 2000000 in
theorem tRead_any {w0 w : World} {b jb pb tb : Nat} {X : Nat → Prop} {a cap : Nat} {S : PS} {L : List ByteArray} {A : List (Nat × Nat)} {hn : Nat} {Mw Mn : List ByteArray} {R : Nat → Rc} (h : TG w0 w b jb pb tb X a cap S L A hn Mw Mn R) : Calls Tryz.prog 32 #[.pointer (some ⟨tb, 0, none⟩)] w fun e w' => e = .returned (.tuple #[.agg (lC R).toArray, .int .i64 0]) ∧ TKept w0 w b jb pb tb X a cap S L A hn Mw Mn R w' := by
  obtain ⟨g, hg⟩ : ∃ xx, w.heap.size = xx := ⟨_, rfl⟩
  obtain ⟨x1, hx1⟩ : ∃ xx, w.alloc (.cells Tryz.zeroCells90 90) = xx := ⟨_, rfl⟩
  obtain ⟨x2, hx2⟩ : ∃ xx, x1.alloc (.cells Tryz.zeroCells90 90) = xx := ⟨_, rfl⟩
  have hg1 : x1.heap.size = g + 1 := by rw [← hx1, ← hg]; simp
  have G1 := h.add _ hx1 hg
  have G2 := G1.add _ hx2 hg1
  obtain ⟨n1, n2, n3⟩ := h.new hg
  obtain ⟨m1, m2, m3⟩ := G1.new hg1
  have B1 : Blk x1 g Tryz.zeroCells90 90 := by rw [← hx1, ← hg]; exact Blk.new w _ _
  have B12 : Blk x2 g Tryz.zeroCells90 90 := by rw [← hx2]; exact B1.alloc _
  have B2 : Blk x2 (g + 1) (lC (cutR R 0)).toArray 90 := by rw [← hx2, ← hg1, cutR_0, lC_zero]; exact Blk.new x1 _ _
  have hO2 : Only (fun x => ¬ X x) w x2 := by rw [← hx2, ← hx1]; exact ((Only.refl _ w).alloc _).alloc _
  have HI := hide (show Rdw w0 w b jb pb tb X a cap S L A hn Mw Mn R g 0 x2 from ⟨B12, B2, S, G2, rfl, Tk.refl _, hO2⟩)
  have HN := hide (And.intro n1 (And.intro n2 (And.intro n3 (And.intro m2 (And.intro m3 (And.intro (show ¬ X (g + 1) from fun q => m1 (.inl q)) h.xt))))))
  have HOK := hide (And.intro h.ok (And.intro h.lo h.hi))
  clear h G1 G2 n1 n2 n3 m1 m2 m3 B1 B12 B2 hO2
  go_enter Tryz.func32, Tryz.ntmps32
  go_wp2
  clear hx1 hx2 hg1
  go_loopw [11, 5, 6, 7, 8, 9, 10] (fun i _ _ _ _ _ _ wr => ∃ k : Nat, k ≤ 8 ∧ i = .int .i64 (k : Int) ∧ Rdw w0 w b jb pb tb X a cap S L A hn Mw Mn R g k wr) (fun i _ _ _ _ _ _ _ => 8 - (intOf i).toNat)
  case atStart => exact ⟨0, by omega, rfl, unhide HI⟩
  case round =>
    obtain ⟨k, hk, rfl, I1, I2, hK⟩ := hrel
    by_cases hkn : k < 8
    · have hkn' : (k : Int) < 8 := by omega
      have hk0 : (0 : Int) ≤ (k : Int) := by omega
      obtain ⟨S1, G, ho1, hT1, hO⟩ := hK
      have Gd := G.below ((Below.refl _ wr).drew)
      have c0 := G.c0
      have HSC := hide (tSector_any Gd.bk (by have := (unhide HOK).2.2; omega) k hkn)
      have HRD := hide (Gd.read k hkn)
      have HRO := hide (fun W (q : ETy W) => recordOf_any (k + 1) (by omega) (R k) ((unhide HOK).1 k hkn) W q)
      have e1 : (k : Int) + 1 = ((k + 1 : Nat) : Int) := by omega
      have hwk : IntKind.i64.wrap ((k + 1 : Nat) : Int) = ((k + 1 : Nat) : Int) := wrapI_eq _ (by omega) (by omega)
      have HI1 := hide (And.intro I1 (And.intro I2 (And.intro ho1 (And.intro hT1 (And.intro hO G.xt)))))
      generalize ((a + k : Nat) : Int) = ak at *
      generalize hkk : ((k + 1 : Nat) : Int) = kk at *
      generalize pgR (k + 1) (R k) = tx at *
      have HKK := hide hkk.symm
      clear I1 I2 ho1 hT1 hO G hkk
      go_wp2
      refine wp_region_held_drew (S := fun w' => w'.cell? ⟨tb, 0, none⟩ = some (.pointer (some ⟨pb, 0, none⟩))) (by kernel_rfl) c0 ?_
      intro hS
      refine wpAnyH_takeD 0 (some 17) (.pointer (some ⟨tb, 0, none⟩)) rfl rfl (by kernel_rfl) (by kernel_rfl) (by kernel_rfl) (fun _ _ _ h => h) (Or.inl ⟨by rfl, fun w hSw => by go_simp⟩) hS ?_
      simp only [Act.put, List.setIfInBounds_toArray, List.set_cons_zero, List.set_cons_succ]
      refine wpAnyH_takeD 1 (some 18) (.pointer (some ⟨tb, 0, none⟩)) rfl rfl (by kernel_rfl) (by kernel_rfl) (by kernel_rfl) (fun _ _ _ h => h) (Or.inl ⟨by rfl, fun w hSw => by go_simp⟩) hS ?_
      simp only [Act.put, List.setIfInBounds_toArray, List.set_cons_zero, List.set_cons_succ]
      refine wpAnyH_takeD 2 (some 19) (.pointer (some ⟨tb, 0, none⟩)) rfl rfl (by kernel_rfl) (by kernel_rfl) (by kernel_rfl) (fun _ _ _ h => h) (Or.inl ⟨by rfl, fun w hSw => by go_simp⟩) hS ?_
      simp only [Act.put, List.setIfInBounds_toArray, List.set_cons_zero, List.set_cons_succ]
      refine wpAnyH_takeD 3 (some 20) (.pointer (some ⟨pb, 0, none⟩)) rfl rfl (by kernel_rfl) (by kernel_rfl) (by kernel_rfl) (fun _ _ _ h => h) (Or.inl ⟨by rfl, fun w hSw => by go_simp⟩) hS ?_
      simp only [Act.put, List.setIfInBounds_toArray, List.set_cons_zero, List.set_cons_succ]
      refine wpAnyH_takeD 4 (some 21) (.pointer (some ⟨tb, 0, none⟩)) rfl rfl (by kernel_rfl) (by kernel_rfl) (by kernel_rfl) (fun _ _ _ h => h) (Or.inl ⟨by rfl, fun w hSw => by go_simp⟩) hS ?_
      simp only [Act.put, List.setIfInBounds_toArray, List.set_cons_zero, List.set_cons_succ]
      refine wpAnyH_takeD 5 (some 22) (.int .i64 kk) rfl rfl (by kernel_rfl) (by kernel_rfl) (by kernel_rfl) (fun _ _ _ h => h) (Or.inl ⟨by rfl, fun w hSw => by go_simp⟩) hS ?_
      simp only [Act.put, List.setIfInBounds_toArray, List.set_cons_zero, List.set_cons_succ]
      refine wpAnyH_ready (rs := [6]) (by kernel_rfl) (by simp) ?_
      refine AllReadyH.cons rfl (fun K hK => ?_) AllReadyH.nil
      simp only [List.getElem_toArray, List.getElem_cons_succ, List.getElem_cons_zero]
      go_simp
      refine (unhide HSC).mono ?_
      rintro e x3 ⟨rfl, hx3⟩
      subst x3
      refine hK.out _ _ c0 (fun hS => ?_)
      clear hK K
      refine wpAnyH_ready (rs := [7]) (by kernel_rfl) (by simp) ?_
      refine AllReadyH.cons rfl (fun K hK => ?_) AllReadyH.nil
      simp only [List.getElem_toArray, List.getElem_cons_succ, List.getElem_cons_zero]
      go_simp
      refine (unhide HRD).mono ?_
      rintro e x4 ⟨rfl, S4, G4, ho4, hT4, hO4⟩
      have d0 := G4.c0
      have H4 := hide (And.intro G4 (And.intro ho4 (And.intro hT4 hO4)))
      have HO4 := hide (show Only (fun x => ¬ ((fun x => X x ∨ x = g) x ∨ x = g + 1)) wr x4 from (Only.of_below (P := fun x => ¬ ((fun x => X x ∨ x = g) x ∨ x = g + 1)) ((Below.refl _ wr).drew)).trans hO4 (fun _ _ q => q))
      clear G4 ho4 hT4 hO4 HRD
      refine hK.out _ _ d0 (fun hS => ?_)
      clear hK K
      refine wpAnyH_takeD 8 (some 16) (.tuple #[.string tx, .int .i64 0]) rfl rfl (by kernel_rfl) (by kernel_rfl) (by kernel_rfl) (fun _ _ _ h => h) (Or.inl ⟨by rfl, fun w hSw => by go_simp⟩) hS ?_
      simp only [Act.put, List.setIfInBounds_toArray, List.set_cons_zero, List.set_cons_succ]
      refine wpAnyH_takeD 9 (some 25) (.string tx) rfl rfl (by kernel_rfl) (by kernel_rfl) (by kernel_rfl) (fun _ _ _ h => h) (Or.inl ⟨by rfl, fun w hSw => by go_simp⟩) hS ?_
      simp only [Act.put, List.setIfInBounds_toArray, List.set_cons_zero, List.set_cons_succ]
      refine wpAnyH_takeD 10 (some 26) (.int .i64 0) rfl rfl (by kernel_rfl) (by kernel_rfl) (by kernel_rfl) (fun _ _ _ h => h) (Or.inl ⟨by rfl, fun w hSw => by go_simp⟩) hS ?_
      simp only [Act.put, List.setIfInBounds_toArray, List.set_cons_zero, List.set_cons_succ]
      refine wpAnyH_takeD 11 (some 7) (.string tx) rfl rfl (by kernel_rfl) (by kernel_rfl) (by kernel_rfl) (fun _ _ _ h => h) (Or.inl ⟨by rfl, fun w hSw => by go_simp⟩) hS ?_
      simp only [Act.put, List.setIfInBounds_toArray, List.set_cons_zero, List.set_cons_succ]
      refine wpAnyH_takeD 12 (some 8) (.int .i64 0) rfl rfl (by kernel_rfl) (by kernel_rfl) (by kernel_rfl) (fun _ _ _ h => h) (Or.inl ⟨by rfl, fun w hSw => by go_simp⟩) hS ?_
      simp only [Act.put, List.setIfInBounds_toArray, List.set_cons_zero, List.set_cons_succ]
      refine wpAnyH_done (by kernel_rfl) ?_ _
      clear hS c0
      go_wp2_with fail
      refine (unhide HRO _ (unhide H4).1.etw).mono ?_
      rintro e x5 ⟨rfl, hb5⟩
      obtain ⟨I1, I2, ho1, hT1, hO, hxt⟩ := unhide HI1
      obtain ⟨G4, ho4, hT4, hO4⟩ := unhide H4
      have J1 := (I1.only (unhide HO4) (fun q => q (.inl (.inr rfl)))).below hb5 ((I1.only (unhide HO4) (fun q => q (.inl (.inr rfl)))).lt)
      have J2 := (I2.only (unhide HO4) (fun q => q (.inr rfl))).below hb5 ((I2.only (unhide HO4) (fun q => q (.inr rfl))).lt)
      have G5 := G4.below hb5
      obtain ⟨h9, hh9⟩ : ∃ xx, x5.heap.size = xx := ⟨_, rfl⟩
      obtain ⟨x6, hx6⟩ : ∃ xx, x5.alloc (.cells #[.bool false, .int .i64 0, .int .i64 0, .int .i64 0, .int .i64 0, .int .i64 0, .int .i64 0, .int .i64 0, .int .i64 0, .int .i64 0, .int .i64 0, .int .i64 0, .int .i64 0, .int .i64 0, .int .i64 0, .int .i64 0, .int .i64 0, .int .i64 0, .int .i64 0, .int .i64 0] 88) = xx := ⟨_, rfl⟩
      have B6 : Blk x6 h9 #[.bool false, .int .i64 0, .int .i64 0, .int .i64 0, .int .i64 0, .int .i64 0, .int .i64 0, .int .i64 0, .int .i64 0, .int .i64 0, .int .i64 0, .int .i64 0, .int .i64 0, .int .i64 0, .int .i64 0, .int .i64 0, .int .i64 0, .int .i64 0, .int .i64 0, .int .i64 0] 88 := by rw [← hx6, ← hh9]; exact Blk.new x5 _ _
      have K1 : Blk x6 g Tryz.zeroCells90 90 := by rw [← hx6]; exact J1.alloc _
      have K2 : Blk x6 (g + 1) (lC (cutR R k)).toArray 90 := by rw [← hx6]; exact J2.alloc _
      have hb6 : Below x5.heap.size x5 x6 := by rw [← hx6]; exact (Below.refl _ x5).alloc (Nat.le_refl _) _
      have G6 := G5.below hb6
      have h9g : g + 1 < h9 := by rw [← hh9]; exact J2.lt
      have hyl := rV_len (R k)
      have hyo := rV_one (R k)
      have hset := lC_set (blk_cells_other (rV (R k)) 0 K2 h9 (by omega)) k hkn (R k)
      rw [cutR_succ] at hset
      have hthere := lC_there (blk_cells_other (rV (R k)) 0 K2 h9 (by omega)) k hkn
      generalize rV (R k) = ys at *
      have TH := hide (blk_there B6 ys.toArray.size (by simp [hyl]))
      have B7 := setCells_all B6 ys (by simp [hyl])
      have R7 := hide (blk_range B7)
      have TH8 := hide (show (x6.setCells h9 0 ys).there (g + 1) (k * 20) ys.toArray.size by simpa [hyl] using hthere)
      have L1 := blk_cells_other ys (k * 20) (blk_cells_other ys 0 K1 h9 (by omega)) (g + 1) (by omega)
      have hb7 : Below x5.heap.size x5 (x6.setCells h9 0 ys) := below_setCells (by omega) ys 0 hb6
      have G7 := (G5.below hb7).poke (.inr rfl) (unhide HN).2.2.2.1 (unhide HN).2.2.2.2.1 (only_cells (g + 1) (k * 20) ys rfl)
      have HF := hide (show Rdw w0 w b jb pb tb X a cap S L A hn Mw Mn R g (k + 1) ((x6.setCells h9 0 ys).setCells (g + 1) (k * 20) ys) from ⟨L1, hset, _, G7, ho4.trans ho1, hT4.trans hT1, ((hO.trans ((unhide HO4).mono (fun x _ q r => q (.inl (.inl r)))) (fun _ _ q => q)).trans (Only.of_below (P := fun x => ¬ X x) hb5) (fun _ _ q => q)).trans ((Only.of_below (P := fun x => ¬ X x) hb7).trans (only_cells (P := fun x => ¬ X x) (g + 1) (k * 20) ys (unhide HN).2.2.2.2.2.1) (fun _ _ q => q)) (fun _ _ q => q)⟩)
      have HYL := hide hyl
      have HYO := hide hyo
      clear I1 I2 ho1 hT1 hO hxt G4 ho4 hT4 hO4 J1 J2 G5 B6 K1 K2 hb6 G6 h9g hyl hyo hset hthere B7 L1 hb7 G7 hb5 HI1 H4 HO4
      go_wp2_with (first | refine wpList_load_mid rfl 88 (.tmp 9) rfl h9 0 rfl _ _ (unhide R7) Tryz.underlying88 rfl (by rw [sizeRec, unhide HYL]) ?_ | refine wpList_store_mid rfl 88 (.tmp 9) (.tmp 35) rfl h9 0 ys.toArray rfl rfl (unhide TH) (by rw [sizeRec]; simp [unhide HYL]) (unhide HYO) ?_ | refine wpList_store_mid rfl 88 (.tmp 42) (.tmp 41) rfl (g + 1) (k * 20) ys.toArray rfl rfl (unhide TH8) (by rw [sizeRec]; simp [unhide HYL]) (unhide HYO) ?_)
      go_roundw
      case rel => exact ⟨k + 1, by omega, by rw [unhide HKK], unhide HF⟩
      case measure => simp [intOf]; have := unhide HKK; omega
    · have hke : k = 8 := by omega
      have hkn' : ¬ (k : Int) < 8 := by omega
      obtain ⟨S1, G, ho1, hT1, hO⟩ := hK
      rw [hke, lC_cut] at I2
      have hzl := lC_len R
      have hzo := lC_one R
      obtain ⟨zs, hzq⟩ : ∃ xx, lC R = xx := ⟨_, rfl⟩
      rw [hzq] at I2 hzl hzo
      have HZQ := hide hzq
      clear hzq
      have R2 := hide (blk_range I2)
      have hz1 : Blk wr g Tryz.zeroCells90 90 := I1
      have hzs : (Tryz.zeroCells90).size = 160 := by rw [← lC_zero]; simp [lC_len]
      have TH := hide (blk_there I1 zs.toArray.size (by rw [hzs]; simp [hzl]))
      have B4 := setCells_all I1 zs (by rw [hzs, hzl])
      have HLD := hide (iload_blk 90 _ B4 Tryz.underlying90 rfl (by rw [sizeRol]; simp [hzl]))
      have G4 := (G.poke (.inl (.inr rfl)) (unhide HN).2.1 (unhide HN).2.2.1 (only_cells g 0 zs rfl)).less (fun x q => .inl (.inl q)) (unhide HN).2.2.2.2.2.2
      have HF := hide (show TKept w0 w b jb pb tb X a cap S L A hn Mw Mn R (wr.setCells g 0 zs) from ⟨S1, G4, ho1, hT1, hO.trans (only_cells (P := fun x => ¬ X x) g 0 zs (unhide HN).1) (fun _ _ q => q)⟩)
      have HZL := hide hzl
      have HZO := hide hzo
      clear I1 I2 G ho1 hT1 hO hzl hzo hz1 hzs B4 G4 hke HI
      go_wp2_with (first | refine wpList_load_mid rfl 90 (.tmp 4) rfl (g + 1) 0 rfl _ _ (unhide R2) Tryz.underlying90 rfl (by rw [sizeRol, unhide HZL]) ?_ | refine wpList_store_mid rfl 90 (.tmp 2) (.tmp 44) rfl g 0 zs.toArray rfl rfl (unhide TH) (by rw [sizeRol]; simp [unhide HZL]) (unhide HZO) ?_)
      exact bodyPost_ret (v := .tuple #[.agg zs.toArray, .int .i64 0]) (results_cell2 (p := 2) (q := 3) (ty := 90) rfl _ _ _ ⟨g, 0, none⟩ rfl _ (unhide HLD)) rfl ⟨by rw [unhide HZQ], unhide HF⟩
end Go.Proofs.YtpcmifmgkccfnaaGreatDoor
