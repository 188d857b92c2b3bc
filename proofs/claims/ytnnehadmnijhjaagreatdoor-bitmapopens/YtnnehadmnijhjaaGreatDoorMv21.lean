import Derived.Test.YtnnehadmnijhjaaGreatDoorMv20
import Derived.Test.YtnnehadmnijhjaaGreatDoorMv09
import Derived.Deep.AppendLies
namespace Go.Proofs.YtnnehadmnijhjaaGreatDoor
open Go.RowKit Go.Maps Go.Sort Go.Shelf
theorem layP_in (ps : List (Nat × ByteArray)) : ∀ (l : List ByteArray) (k : Nat) (t : ByteArray), ps.Pairwise (fun a b => a.1 ≠ b.1) → (k, t) ∈ ps → k < l.length → (layP l ps).getD k ByteArray.empty = t := by
  induction ps with
  | nil => intro l k t _ h; cases h
  | cons p r ih =>
    intro l k t hp hm hk
    obtain ⟨h1, h2⟩ := List.pairwise_cons.1 hp
    rcases List.mem_cons.1 hm with q | q
    · subst q
      show (layP (l.set k t) r).getD k ByteArray.empty = t
      rw [layP_skip r _ k (fun p hp e => h1 p hp e.symm)]
      simp [List.getD_eq_getElem?_getD, hk]
    · exact ih (l.set p.1 p.2) k t h2 q (by simpa using hk)
theorem tx_lay {tx : Tx} (hs : Srt tx) (hm : ∀ p ∈ tx, 19 ≤ p.1) (M : List ByteArray) (k : Nat) (hk : k < M.length) : (layP M (natW tx)).getD k ByteArray.empty = (txAt tx (k : Int)).getD (M.getD k ByteArray.empty) := by
  cases e : txAt tx (k : Int) with
  | none =>
    rw [layP_skip]
    · rfl
    · intro p hp q
      obtain ⟨x, hx, rfl⟩ := List.mem_map.1 hp
      have h1 := at_none.1 e x hx
      have h2 := hm x hx
      simp only at q
      omega
  | some t =>
    have hmem := (at_some hs).1 e
    refine layP_in _ M k t ?_ (List.mem_map.2 ⟨_, hmem, by simp⟩) hk
    refine List.pairwise_map.2 (List.Pairwise.imp_of_mem (fun {p q} hp hq h => ?_) hs)
    have := hm p hp
    have := hm q hq
    simp only
    omega
/-- What is at hand of the free sectors is what the disk holds. -/
def Hok (h : Tx) (L : List ByteArray) : Prop := ∀ p ∈ h, 19 ≤ p.1 → p.1 < 128 → p.2 = L.getD p.1.toNat ByteArray.empty
theorem Hok.lay {h : Tx} {L : List ByteArray} (H : Hok h L) (keep k : Nat) (t : ByteArray) (ht : t = L.getD k ByteArray.empty) : Hok (hLay keep (k : Int) t h) L := fun p hp h1 h2 => by
  rcases hLay_mem hp with q | q
  · subst q; simpa using ht
  · exact H p q h1 h2
/-- What a pool, its disk and the two lists have to do with one another. -/
structure Seen (S : PS) (L : List ByteArray) (A : List (Nat × Nat)) (hn : Nat) (Mw Mn : List ByteArray) : Prop where
  rst : Rst S L A ((hn + 1) % 4294967296)
  len : L.length = 128
  siz : ∀ t ∈ L, t.size = 256
  hd : L.getD 1 ByteArray.empty = headB hn []
  hn : hn < 4294967296
  was : freeQ L Mw
  lw : Mw.length = 128
  ln : Mn.length = 128
  now : ∀ k : Nat, 19 ≤ k → k < 128 → Mn.getD k ByteArray.empty = (txAt S.tx (k : Int)).getD (Mw.getD k ByteArray.empty)
  cl : S.op = false → S.tx = []
  hok : Hok S.h L
theorem Seen.read {S : PS} {L : List ByteArray} {A : List (Nat × Nat)} {hn : Nat} {Mw Mn : List ByteArray} (h : Seen S L A hn Mw Mn) (k : Nat) (h1 : 19 ≤ k) (h2 : k < 128) : (readP S k).1 = Mn.getD k ByteArray.empty ∧ (readP S k).2.1 = 0 ∧ Seen (readP S k).2.2 L A hn Mw Mn ∧ (readP S k).2.2.op = S.op ∧ (readP S k).2.2.tx = S.tx := by
  have hk : k < L.length := by rw [h.len]; exact h2
  obtain ⟨r1, r2, r3, r4, _⟩ := read_rest h.rst k hk
  have hT : readT S.s (k : Int) = L.getD k ByteArray.empty := by rw [h.rst.s]; exact (read_rs L A k hk).2
  have key : (readP S k).1 = Mn.getD k ByteArray.empty ∧ Hok (readP S k).2.2.h L := by
    have hh : hasB S.s (k : Int) = true := by rw [h.rst.s]; show (decide (0 ≤ (k : Int)) && decide ((k : Int) < (L.length : Int))) = true; simp; omega
    have hr : readE S.s (k : Int) = 0 := by rw [h.rst.s]; exact (read_rs L A k hk).1
    rw [h.now k h1 h2, ← h.was k h1 hk]
    unfold readP
    rw [hh, h.rst.lost]
    cases ht : txAt S.tx (k : Int) with
    | some t => exact ⟨rfl, h.hok⟩
    | none =>
      cases hf : txAt S.h (k : Int) with
      | some t =>
        have hmem : ((k : Int), t) ∈ S.h := by
          unfold txAt at hf
          obtain ⟨x, hx, e⟩ := Option.map_eq_some_iff.1 hf
          have a1 := List.mem_of_find?_eq_some hx
          have a2 := List.find?_some hx
          simp only [beq_iff_eq] at a2
          rw [← a2, ← e]
          exact a1
        have ht' := h.hok _ hmem (by show (19 : Int) ≤ (k : Int); omega) (by show (k : Int) < 128; omega)
        simp only [Int.toNat_natCast] at ht'
        exact ⟨ht', h.hok.lay _ k t ht'⟩
      | none =>
        simp only [hr, if_true]
        exact ⟨hT, h.hok.lay _ k _ hT⟩
  exact ⟨key.1, r1, ⟨r2, h.len, h.siz, h.hd, h.hn, h.was, h.lw, h.ln, by rw [r4]; exact h.now, by rw [r3, r4]; exact h.cl, key.2⟩, r3, r4⟩
theorem Seen.begin {S : PS} {L : List ByteArray} {A : List (Nat × Nat)} {hn : Nat} {Mw Mn : List ByteArray} (h : Seen S L A hn Mw Mn) : beginE S = (if S.op then 60 else 0) ∧ Seen (beginS S) L A hn Mw Mn ∧ (beginS S).op = true ∧ (beginS S).tx = S.tx := by
  cases ho : S.op with
  | true => simp [beginE, beginS, ho, h]
  | false =>
    have hl := h.rst.lost
    refine ⟨by simp [beginE, ho, hl], ?_, by simp [beginS, ho, hl], by simp [beginS, ho, hl]⟩
    have e : beginS S = { S with op := true } := by simp [beginS, ho, hl]
    rw [e]
    exact ⟨⟨h.rst.s, h.rst.nx, h.rst.jl, h.rst.lost⟩, h.len, h.siz, h.hd, h.hn, h.was, h.lw, h.ln, h.now, fun q => (by cases q), h.hok⟩
theorem Seen.write {S : PS} {L : List ByteArray} {A : List (Nat × Nat)} {hn : Nat} {Mw Mn : List ByteArray} (h : Seen S L A hn Mw Mn) (hs : Srt S.tx) (ho : S.op = true) (k : Nat) (h1 : 19 ≤ k) (h2 : k < 128) (t : ByteArray) (ht : t.size = 256) (hr : roomB S (k : Int) = true) : refP S (k : Int) t = 0 ∧ Seen (writeP S (k : Int) t) L A hn Mw (Mn.set k t) ∧ (writeP S (k : Int) t).op = true ∧ (writeP S (k : Int) t).tx = txPut (k : Int) t S.tx := by
  have h0 : refP S (k : Int) t = 0 := by
    have e1 : hasB S.s (k : Int) = true := by rw [h.rst.s]; show (decide (0 ≤ (k : Int)) && decide ((k : Int) < (L.length : Int))) = true; have := h.len; simp; omega
    unfold refP
    rw [if_neg (by rw [e1]; simp), if_neg (by omega), if_neg (by omega), if_neg (by simp [ho]), if_neg (by simp [h.rst.lost]), if_pos hr]
  have e : writeP S (k : Int) t = putS S (k : Int) t := by unfold writeP; rw [if_pos h0]
  refine ⟨h0, ?_, by rw [e]; exact ho, by rw [e]; rfl⟩
  rw [e]
  refine ⟨⟨h.rst.s, h.rst.nx, h.rst.jl, h.rst.lost⟩, h.len, h.siz, h.hd, h.hn, h.was, h.lw, by rw [List.length_set]; exact h.ln, fun i a1 a2 => ?_, fun q => (by rw [show (putS S (k : Int) t).op = S.op from rfl, ho] at q; cases q), h.hok⟩
  show _ = (txAt (txPut (k : Int) t S.tx) (i : Int)).getD _
  rw [at_put hs]
  have hln := h.ln
  by_cases hik : i = k
  · subst hik
    rw [if_pos rfl]
    simp [List.getD_eq_getElem?_getD, show i < Mn.length by omega]
  · rw [if_neg (by omega), ← h.now i a1 a2]
    simp [List.getD_eq_getElem?_getD, Ne.symm hik]
end Go.Proofs.YtnnehadmnijhjaaGreatDoor

namespace Go.Proofs.YtnnehadmnijhjaaGreatDoor
open Go.RowKit Go.Maps Go.Sort Go.Shelf
end Go.Proofs.YtnnehadmnijhjaaGreatDoor

namespace Go.Proofs.YtnnehadmnijhjaaGreatDoor
open Go.RowKit Go.Maps Go.Sort Go.Shelf
theorem nodup_sub : ∀ (a b : List Int), a.Nodup → (∀ x ∈ a, x ∈ b) → a.length ≤ b.length
  | [], _, _, _ => Nat.zero_le _
  | x :: r, b, h, hs => by
    obtain ⟨h1, h2⟩ := List.nodup_cons.1 h
    have hx := hs x (by simp)
    have ih := nodup_sub r (b.erase x) h2 (fun y hy => by
      have hne : y ≠ x := fun e => h1 (by rw [← e]; exact hy)
      exact (List.mem_erase_of_ne hne).2 (hs y (by simp [hy])))
    rw [List.length_erase_of_mem hx] at ih
    have := List.length_pos_of_mem hx
    simp only [List.length_cons]
    omega
theorem PK.srt {w0 w : World} {b jb pb : Nat} {S : PS} {X : Nat → Prop} (K : PK w0 w b jb pb S X) : Srt S.tx := by
  obtain ⟨bw, bv, ov, K⟩ := K
  exact K.tx.2
end Go.Proofs.YtnnehadmnijhjaaGreatDoor

namespace Go.Proofs.YtnnehadmnijhjaaGreatDoor
open Go.RowKit Go.Maps Go.Sort Go.Shelf
/-- Keys within a map's pages are few. -/
theorem tx_few {tx : Tx} {a n : Nat} (hs : Srt tx) (hn : n ≤ 1024) (h : ∀ p ∈ tx, (a : Int) ≤ p.1 ∧ p.1 < (a : Int) + (pgs n : Int)) : tx.length ≤ 4 := by
  have h1 : (tx.map (·.1)).Nodup := List.pairwise_map.2 (hs.imp (fun q => by omega))
  have h2 := nodup_sub (tx.map (·.1)) ((List.range 4).map fun i => ((a + i : Nat) : Int)) h1 (fun x hx => by
    obtain ⟨p, hp, rfl⟩ := List.mem_map.1 hx
    obtain ⟨q1, q2⟩ := h p hp
    have := pgs_le hn
    exact List.mem_map.2 ⟨(p.1 - (a : Int)).toNat, List.mem_range.2 (by omega), by omega⟩)
  simpa using h2
/-- A map over a pool whose disk lives. -/
structure BG (w0 w : World) (b jb pb mb : Nat) (X : Nat → Prop) (a n : Nat) (S : PS) (L : List ByteArray) (A : List (Nat × Nat)) (hn : Nat) (Mw Mn : List ByteArray) (T : Nat → Bool) : Prop where
  pk : PK w0 w b jb pb S X
  mp : MB w mb pb a n
  xm : X mb
  ety : ETy w0
  seen : Seen S L A hn Mw Mn
  ms : MS Mn a n T
  lo : 19 ≤ a
  hi : a + pgs n ≤ 128
  n1 : 1 ≤ n
  n2 : n ≤ 1024
theorem BG.next {w0 w : World} {b jb pb mb : Nat} {X : Nat → Prop} {a n : Nat} {S : PS} {L : List ByteArray} {A : List (Nat × Nat)} {hn : Nat} {Mw Mn : List ByteArray} {T : Nat → Bool} (h : BG w0 w b jb pb mb X a n S L A hn Mw Mn T) {w' : World} {S' : PS} {L' : List ByteArray} {A' : List (Nat × Nat)} {hn' : Nat} {Mw' Mn' : List ByteArray} {T' : Nat → Bool} (K : PK w0 w' b jb pb S' X) (ho : Only (fun x => ¬ X x) w w') (hs : Seen S' L' A' hn' Mw' Mn') (hm : MS Mn' a n T') : BG w0 w' b jb pb mb X a n S' L' A' hn' Mw' Mn' T' :=
  ⟨K, h.mp.only ho (fun q => q h.xm), h.xm, h.ety, hs, hm, h.lo, h.hi, h.n1, h.n2⟩
theorem BG.below {w0 w : World} {b jb pb mb : Nat} {X : Nat → Prop} {a n : Nat} {S : PS} {L : List ByteArray} {A : List (Nat × Nat)} {hn : Nat} {Mw Mn : List ByteArray} {T : Nat → Bool} (h : BG w0 w b jb pb mb X a n S L A hn Mw Mn T) {w' : World} (hb : Below w.heap.size w w') : BG w0 w' b jb pb mb X a n S L A hn Mw Mn T :=
  ⟨h.pk.below hb, h.mp.below hb, h.xm, h.ety, h.seen, h.ms, h.lo, h.hi, h.n1, h.n2⟩
theorem BG.more {w0 w : World} {b jb pb mb : Nat} {X : Nat → Prop} {a n : Nat} {S : PS} {L : List ByteArray} {A : List (Nat × Nat)} {hn : Nat} {Mw Mn : List ByteArray} {T : Nat → Bool} (h : BG w0 w b jb pb mb X a n S L A hn Mw Mn T) {w' : World} {Y : Nat → Prop} (hb : Below w.heap.size w w') (hy : ∀ x, Y x → X x ∨ (w.heap.size ≤ x ∧ x < w'.heap.size)) (hm : Y mb) : BG w0 w' b jb pb mb Y a n S L A hn Mw Mn T :=
  ⟨h.pk.more hb hy, h.mp.below hb, hm, h.ety, h.seen, h.ms, h.lo, h.hi, h.n1, h.n2⟩
theorem BG.less {w0 w : World} {b jb pb mb : Nat} {X : Nat → Prop} {a n : Nat} {S : PS} {L : List ByteArray} {A : List (Nat × Nat)} {hn : Nat} {Mw Mn : List ByteArray} {T : Nat → Bool} (h : BG w0 w b jb pb mb X a n S L A hn Mw Mn T) {Y : Nat → Prop} (hy : ∀ x, Y x → X x) (hm : Y mb) : BG w0 w b jb pb mb Y a n S L A hn Mw Mn T := h.more (Below.refl _ _) (fun x q => .inl (hy x q)) hm
theorem BG.poke {w0 w : World} {b jb pb mb : Nat} {X : Nat → Prop} {a n : Nat} {S : PS} {L : List ByteArray} {A : List (Nat × Nat)} {hn : Nat} {Mw Mn : List ByteArray} {T : Nat → Bool} (h : BG w0 w b jb pb mb X a n S L A hn Mw Mn T) {w' : World} {Y P : Nat → Prop} (ho : Only P w w') (hP : ∀ x, P x → x < w.heap.size → X x) (hlo : ∀ x, P x → w0.heap.size ≤ x) (hy : ∀ x, Y x → X x ∨ (w.heap.size ≤ x ∧ x < w'.heap.size)) (hm : Y mb) (hpm : ¬ P mb) : BG w0 w' b jb pb mb Y a n S L A hn Mw Mn T :=
  ⟨h.pk.poke ho hP hlo hy, h.mp.only ho hpm, hm, h.ety, h.seen, h.ms, h.lo, h.hi, h.n1, h.n2⟩
theorem BG.srt {w0 w : World} {b jb pb mb : Nat} {X : Nat → Prop} {a n : Nat} {S : PS} {L : List ByteArray} {A : List (Nat × Nat)} {hn : Nat} {Mw Mn : List ByteArray} {T : Nat → Bool} (h : BG w0 w b jb pb mb X a n S L A hn Mw Mn T) : Srt S.tx := by
  obtain ⟨bw, bv, ov, K⟩ := h.pk
  exact K.tx.2
theorem BG.t16 {w0 w : World} {b jb pb mb : Nat} {X : Nat → Prop} {a n : Nat} {S : PS} {L : List ByteArray} {A : List (Nat × Nat)} {hn : Nat} {Mw Mn : List ByteArray} {T : Nat → Bool} (h : BG w0 w b jb pb mb X a n S L A hn Mw Mn T) : S.tx.length ≤ 16 := by
  obtain ⟨bw, bv, ov, K⟩ := h.pk
  exact K.t16
theorem BG.tok {w0 w : World} {b jb pb mb : Nat} {X : Nat → Prop} {a n : Nat} {S : PS} {L : List ByteArray} {A : List (Nat × Nat)} {hn : Nat} {Mw Mn : List ByteArray} {T : Nat → Bool} (h : BG w0 w b jb pb mb X a n S L A hn Mw Mn T) : ∀ p ∈ S.tx, 19 ≤ p.1 ∧ p.1 < 128 ∧ p.2.size = 256 := by
  obtain ⟨bw, bv, ov, K⟩ := h.pk
  have := K.tok
  rw [h.seen.rst.s, show (rs L A).last = L from rfl, h.seen.len] at this
  exact this
theorem BG.size {w0 w : World} {b jb pb mb : Nat} {X : Nat → Prop} {a n : Nat} {S : PS} {L : List ByteArray} {A : List (Nat × Nat)} {hn : Nat} {Mw Mn : List ByteArray} {T : Nat → Bool} (h : BG w0 w b jb pb mb X a n S L A hn Mw Mn T) : w0.heap.size ≤ w.heap.size := h.pk.bel.size
/-- The transaction's sectors, and how many are kept at hand. -/
def Tk (S' S : PS) : Prop := S'.tx = S.tx ∧ S'.keep = S.keep
theorem Tk.trans {S1 S2 S3 : PS} (h : Tk S1 S2) (k : Tk S2 S3) : Tk S1 S3 := ⟨h.1.trans k.1, h.2.trans k.2⟩
theorem Tk.refl (S : PS) : Tk S S := ⟨rfl, rfl⟩
/-- What a call that changes nothing leaves. -/
def Kept (w0 w : World) (b jb pb mb : Nat) (X : Nat → Prop) (a n : Nat) (S : PS) (L : List ByteArray) (A : List (Nat × Nat)) (hn : Nat) (Mw Mn : List ByteArray) (T : Nat → Bool) (w' : World) : Prop :=
  ∃ S', BG w0 w' b jb pb mb X a n S' L A hn Mw Mn T ∧ S'.op = S.op ∧ Tk S' S ∧ Only (fun x => ¬ X x) w w'
theorem BG.read {w0 w : World} {b jb pb mb : Nat} {X : Nat → Prop} {a n : Nat} {S : PS} {L : List ByteArray} {A : List (Nat × Nat)} {hn : Nat} {Mw Mn : List ByteArray} {T : Nat → Bool} (h : BG w0 w b jb pb mb X a n S L A hn Mw Mn T) (k : Nat) (hk : k < pgs n) : ∃ bd, Pg n T k bd (Mn.getD (a + k) ByteArray.empty) ∧ Calls Tryz.prog 39 #[.pointer (some ⟨mb, 0, none⟩), .int .i64 (k : Int)] w fun e w' => e = .returned (.tuple #[.string bd, .int .i64 0]) ∧ Kept w0 w b jb pb mb X a n S L A hn Mw Mn T w' := by
  have h4 := pgs_le h.n2
  have hlo := h.lo
  have hhi := h.hi
  obtain ⟨bd, hp⟩ := h.ms k hk
  refine ⟨bd, hp, ?_⟩
  obtain ⟨r1, r2, r3, r4, r5⟩ := h.seen.read (a + k) (by omega) (by omega)
  have hsz : (Mn.getD (a + k) ByteArray.empty).size = 256 := by rw [hp.2.1]; exact pgT_size k (by omega) bd hp.1
  obtain ⟨q1, q2⟩ := bd_page k (by omega) bd hp.1
  rw [← hp.2.1] at q1 q2
  have e1 : rdE S (a + k) k = 0 := by rw [rdE, r2, if_pos rfl, r1, if_pos q1]
  have e2 : rdT S (a + k) k = bd := by rw [rdT, r2, if_pos rfl, r1, q2]
  have hc := mread_any h.pk h.mp h.xm h.ety (by omega) k (by omega) (readT_rest h.seen.rst (a + k) (by rw [h.seen.len]; omega) h.seen.siz) (by rw [r1, hsz]; decide)
  rw [e1, e2] at hc
  refine hc.mono ?_
  rintro e w' ⟨rfl, K, ho⟩
  exact ⟨rfl, _, h.next K ho r3 h.ms, r4, ⟨r5, (read_rest h.seen.rst (a + k) (by rw [h.seen.len]; omega)).2.2.2.2⟩, ho⟩
end Go.Proofs.YtnnehadmnijhjaaGreatDoor

namespace Go.Proofs.YtnnehadmnijhjaaGreatDoor
open Go.RowKit Go.Maps Go.Sort Go.Shelf
def Xv (X : Nat → Prop) (u : Value) (x : Nat) : Prop := X x ∨ u.ownBlock = some x
/-- A list is under way: of the places below m. -/
def BLs (w0 w : World) (b jb pb mb : Nat) (X : Nat → Prop) (a n : Nat) (S : PS) (L : List ByteArray) (A : List (Nat × Nat)) (hn : Nat) (Mw Mn : List ByteArray) (T : Nat → Bool) (m : Nat) (u : Value) (wr : World) : Prop :=
  wr.ownsRow w.heap.size 3 1 u (lst T m).length ((lst T m).map (Value.int .i64)) ∧ ∃ S', BG w0 wr b jb pb mb (Xv X u) a n S' L A hn Mw Mn T ∧ S'.op = S.op ∧ Tk S' S ∧ Only (fun x => ¬ X x) w wr
theorem BLs.below {w0 w : World} {b jb pb mb : Nat} {X : Nat → Prop} {a n : Nat} {S : PS} {L : List ByteArray} {A : List (Nat × Nat)} {hn : Nat} {Mw Mn : List ByteArray} {T : Nat → Bool} {m : Nat} {u : Value} {wr w' : World} (h : BLs w0 w b jb pb mb X a n S L A hn Mw Mn T m u wr) (hb : Below wr.heap.size wr w') : BLs w0 w b jb pb mb X a n S L A hn Mw Mn T m u w' := by
  obtain ⟨h1, S', h2, h3, h4, h5⟩ := h
  exact ⟨owns_only h1 (Only.of_below (P := fun _ => False) hb) (fun _ _ q => q), S', h2.below hb, h3, h4, h5.trans (Only.of_below (P := fun x => ¬ X x) hb) (fun _ _ q => q)⟩
theorem BLs.read {w0 w : World} {b jb pb mb : Nat} {X : Nat → Prop} {a n : Nat} {S : PS} {L : List ByteArray} {A : List (Nat × Nat)} {hn : Nat} {Mw Mn : List ByteArray} {T : Nat → Bool} {m : Nat} {u : Value} {wr : World} (h : BLs w0 w b jb pb mb X a n S L A hn Mw Mn T m u wr) (k : Nat) (hk : k < pgs n) : ∃ bd, Pg n T k bd (Mn.getD (a + k) ByteArray.empty) ∧ Calls Tryz.prog 39 #[.pointer (some ⟨mb, 0, none⟩), .int .i64 (k : Int)] wr fun e w' => e = .returned (.tuple #[.string bd, .int .i64 0]) ∧ BLs w0 w b jb pb mb X a n S L A hn Mw Mn T m u w' := by
  obtain ⟨h1, S', h2, h3, h4, h5⟩ := h
  obtain ⟨bd, hp, hc⟩ := h2.read k hk
  refine ⟨bd, hp, hc.mono ?_⟩
  rintro e w' ⟨rfl, S2, k1, k2, k3, k4⟩
  exact ⟨rfl, owns_only h1 k4 (fun x hx q => q (.inr hx)), S2, k1, k2.trans h3, k3.trans h4, h5.trans k4 (fun x _ q r => q (.inl r))⟩
theorem BLs.mb {w0 w : World} {b jb pb mb : Nat} {X : Nat → Prop} {a n : Nat} {S : PS} {L : List ByteArray} {A : List (Nat × Nat)} {hn : Nat} {Mw Mn : List ByteArray} {T : Nat → Bool} {m : Nat} {u : Value} {wr : World} (h : BLs w0 w b jb pb mb X a n S L A hn Mw Mn T m u wr) : MB wr mb pb a n := by
  obtain ⟨h1, S', h2, h3, h4, h5⟩ := h
  exact h2.mp
theorem BLs.skip {w0 w : World} {b jb pb mb : Nat} {X : Nat → Prop} {a n : Nat} {S : PS} {L : List ByteArray} {A : List (Nat × Nat)} {hn : Nat} {Mw Mn : List ByteArray} {T : Nat → Bool} {m : Nat} {u : Value} {wr : World} (h : BLs w0 w b jb pb mb X a n S L A hn Mw Mn T m u wr) (ht : T m = false) : BLs w0 w b jb pb mb X a n S L A hn Mw Mn T (m + 1) u wr := by
  unfold BLs
  rw [lst_succ, ht]
  exact h
theorem BLs.grow {w0 w : World} {b jb pb mb : Nat} {X : Nat → Prop} {a n : Nat} {S : PS} {L : List ByteArray} {A : List (Nat × Nat)} {hn : Nat} {Mw Mn : List ByteArray} {T : Nat → Bool} {m : Nat} {u : Value} {wr w1 w' : World} (h : BLs w0 w b jb pb mb X a n S L A hn Mw Mn T m u wr) (ht : T m = true) (hb : Below wr.heap.size wr w1) {g len cap : Nat} (ho : w'.ownsRow w.heap.size 3 1 (.slice (some ⟨g, 0, none⟩) len cap) ((lst T m).length + 1) ((lst T m).map (Value.int .i64) ++ [.int .i64 (m : Int)])) (hg : w1.grownBy w' u.ownBlock) (hgg : u.ownBlock = some g ∨ g = w1.heap.size) (hgl : g < w'.heap.size) (hX : ∀ x, X x → x < w.heap.size) (hw : w0.heap.size ≤ w.heap.size) (hxm : X mb) : BLs w0 w b jb pb mb X a n S L A hn Mw Mn T (m + 1) (.slice (some ⟨g, 0, none⟩) len cap) w' := by
  obtain ⟨h1, S', h2, h3, h4, h5⟩ := h.below hb
  have hO : Only (fun q => u.ownBlock = some q) w1 w' := (Only.refl _ _).grown hg (fun q _ e => e)
  have hlo : ∀ x, u.ownBlock = some x → w.heap.size ≤ x := fun x hx => (h1.lt x hx).1
  unfold BLs
  rw [lst_succ, ht]
  refine ⟨by simpa using ho, S', ?_, h3, h4, h5.trans hO (fun x hx q r => by have := hlo x q; have := hX x r; omega)⟩
  refine h2.poke hO (fun x hx _ => .inr hx) (fun x hx => by have := hlo x hx; omega) (fun x hx => ?_) (.inl hxm) (fun q => by have := hlo mb q; have := hX mb hxm; omega)
  rcases hx with q | q
  · exact .inl (.inl q)
  · have e : g = x := by simpa [Value.ownBlock] using q
    subst e
    rcases hgg with r | r
    · exact .inl (.inr r)
    · exact .inr ⟨by omega, hgl⟩
set_option maxRecDepth 100000 in
set_option maxHeartbeats 4000000 in
theorem mlist_any {w0 w : World} {b jb pb mb : Nat} {X : Nat → Prop} {a n : Nat} {S : PS} {L : List ByteArray} {A : List (Nat × Nat)} {hn : Nat} {Mw Mn : List ByteArray} {T : Nat → Bool} (h : BG w0 w b jb pb mb X a n S L A hn Mw Mn T) : Calls Tryz.prog 14 #[.pointer (some ⟨mb, 0, none⟩)] w fun e w' => ∃ v, e = .returned (.tuple #[v, .int .i64 0]) ∧ BLs w0 w b jb pb mb X a n S L A hn Mw Mn T n v w' := by
  obtain ⟨i0, hi, hz0, hz1, hz2⟩ := info_parts infoI3
  have HI := hide (And.intro hi (And.intro hz0 (And.intro hz1 hz2)))
  clear hi hz0 hz1 hz2
  have c2 := h.mp.c2
  have hn2 := h.n2
  have hn1 := h.n1
  have h4 := pgs_le h.n2
  have HPO := hide (fun W => pagesOf_any n hn2 W)
  have HXX := hide (show (∀ x, X x → x < w.heap.size) ∧ w0.heap.size ≤ w.heap.size ∧ X mb from ⟨fun x hx => h.pk.lt x hx, h.size, h.xm⟩)
  have X0 := hide (show BLs w0 w b jb pb mb X a n S L A hn Mw Mn T 0 (.slice none 0 0) w from ⟨World.ownsRow_nil _ _ _ _, S, h.less (fun x hx => by
    rcases hx with q | q
    · exact q
    · simp [Value.ownBlock] at q) (.inl h.xm), rfl, Tk.refl _, Only.refl _ _⟩)
  have hpg : pgs n = (n + 255) / 256 := rfl
  clear h
  obtain ⟨P0, hP0⟩ : ∃ q, pgs n = q := ⟨_, rfl⟩
  rw [hP0] at HPO h4 hpg
  have HP0 := hide hP0
  clear hP0
  go_enter Tryz.func14, Tryz.ntmps14
  go_wp2_with (go_at_call 38; refine (unhide HPO _).mono ?_; rintro e w' ⟨rfl, hw'⟩; subst w')
  go_loopw [4, 15] (fun u i wr => ∃ k : Nat, k ≤ P0 ∧ i = .int .i64 (k : Int) ∧ BLs w0 w b jb pb mb X a n S L A hn Mw Mn T (min n (256 * k)) u wr) (fun _ i _ => P0 - (intOf i).toNat)
  case atStart => exact ⟨0, by omega, rfl, by rw [Nat.mul_zero, Nat.min_zero]; exact unhide X0⟩
  case round =>
    obtain ⟨k, hk, rfl, hI⟩ := hrel
    obtain ⟨wo, rfl⟩ : ∃ wo, wo = wr := ⟨_, rfl⟩
    clear X0 c2
    obtain ⟨pv, cv, rfl, hcv⟩ := row_form hI.1
    by_cases hkn : k < P0
    · have hkn' : (k : Int) < (P0 : Int) := by omega
      obtain ⟨bd, hpg', hc⟩ := hI.read k (by rw [unhide HP0]; exact hkn)
      have HC := hide hc
      have hm : min n (256 * k) = 256 * k := by omega
      rw [hm] at HC ⊢
      have HPG := hide hpg'
      have hbd := hpg'.1
      clear hI hc hpg' hcv
      go_wp2_with fail
      refine (unhide HC).mono ?_
      rintro e x1 ⟨rfl, hI1⟩
      have HPI := hide (placesIn_any hI1.mb hn2 k (by rw [unhide HP0]; exact hkn))
      have HI1 := hide hI1
      clear hI1 HC
      obtain ⟨pn, hpn⟩ : ∃ q, pin n k = q := ⟨_, rfl⟩
      rw [hpn] at HPI
      have hpn2 : pn ≤ 256 ∧ 256 * k + pn ≤ n ∧ (pn = 256 ∨ 256 * k + pn = n) := by unfold pin at hpn; omega
      clear hpn
      go_wp2_with fail
      refine (unhide HPI).mono ?_
      rintro e x2 ⟨rfl, hb2⟩
      have X2 := hide ((unhide HI1).below hb2)
      clear HI1 HPI hb2
      obtain ⟨lm, hlm⟩ : ∃ q, (lst T (256 * k)).length = q := ⟨_, rfl⟩
      rw [hlm] at X2 ⊢
      clear hlm
      have HFO := hide (fun W => firstOf_any k (by omega) W)
      go_wp2
      go_loopw [4, 30] (fun u i wr => ∃ j : Nat, j ≤ pn ∧ i = .int .i64 (j : Int) ∧ BLs w0 w b jb pb mb X a n S L A hn Mw Mn T (256 * k + j) u wr) (fun _ i _ => pn - (intOf i).toNat)
      case atStart => exact ⟨0, by omega, rfl, unhide X2⟩
      case round =>
        obtain ⟨j, hj, rfl, hJ⟩ := hrel
        obtain ⟨wi, rfl⟩ : ∃ wi, wi = wr := ⟨_, rfl⟩
        clear X2
        obtain ⟨pw, cw, rfl, hcw⟩ := row_form hJ.1
        by_cases hjn : j < pn
        · have hjn' : (j : Int) < (pn : Int) := by omega
          have HTK := hide (fun W => isTaken_any bd hbd (256 * k + j) (by omega) W)
          have hbit : bitB bd (256 * k + j) = T (256 * k + j) := (unhide HPG).bit _ (by omega) (by omega)
          rw [hbit] at HTK
          have e1 : ((256 * k : Nat) : Int) + (j : Int) = ((256 * k + j : Nat) : Int) := by omega
          have hlen : (lst T (256 * k + j)).length ≤ 2000 := by have := lst_len_le T (256 * k + j); omega
          have HJ := hide hJ
          have hrl : ∀ q, (Value.slice pw (lst T (256 * k + j)).length cw).ownBlock = some q → w.heap.size ≤ q := fun q hq => (hJ.1.lt q hq).1
          have HRL := hide hrl
          have hws : w.heap.size ≤ wi.heap.size := hJ.2.elim (fun _ q => q.2.2.2.size)
          clear hJ hbit hcw hrl
          have hfm : 256 * k < 2000 := by omega
          obtain ⟨mm, hmm⟩ : ∃ q, 256 * k + j = q := ⟨_, rfl⟩
          have hmb : mm < 2000 := by omega
          rw [hmm] at HTK e1 HJ hlen HRL ⊢
          have HMM := hide hmm
          obtain ⟨fk, hfk⟩ : ∃ q, 256 * k = q := ⟨_, rfl⟩
          rw [hfk] at HFO e1 hfm
          clear hmm hfk
          go_wp2_with (go_at_call 45; refine (unhide HFO _).mono ?_; rintro e w' ⟨rfl, hw'⟩; subst w')
          refine (unhide HTK _).mono ?_
          rintro e y1 ⟨rfl, hb1⟩
          have HJ1 := hide ((unhide HJ).below hb1)
          have hws1 : w.heap.size ≤ y1.heap.size := Nat.le_trans hws hb1.size
          clear hb1 HTK HJ
          cases hT : T mm with
          | true =>
            have HRA := hide (show (y1.alloc (.cells #[.int .i64 (mm : Int)] 3)).ownsRow w.heap.size 3 1 (.slice pw (lst T mm).length cw) (lst T mm).length ((lst T mm).map (Value.int .i64)) from (unhide HJ1).1.alloc _)
            have HT := hide hT
            clear hT
            obtain ⟨ll, hll⟩ : ∃ q, (lst T mm).length = q := ⟨_, rfl⟩
            rw [hll] at HRA hlen ⊢
            have HLL := hide hll
            clear hll
            go_wp2_with (refine wpList_append_lies _ rfl (.tmp 40) (.tmp 42) 46 rfl w.heap.size 3 i0 (.int .i64 0) 1 8 Tryz.underlying46 (unhide HI).1 (unhide HI).2.1 (unhide HI).2.2.1 (unhide HI).2.2.2 rfl (by decide) _ ll ((lst T mm).map (Value.int .i64)) rfl (unhide HRA) ⟨y1.heap.size, 0, none⟩ 1 1 [.int .i64 (mm : Int)] rfl rfl (fun q u hu => news_one y1 3 _ q u hu) (by simp [Value.oneCell']) (by decide) (by unfold maxLen; omega) (by omega) (by simp; omega) (y1.heap.size + 1) (by simp) ?_)
            intro g5 cap5 x5 ho5 hg5 hgg hgl
            have HRR := hide (show BLs w0 w b jb pb mb X a n S L A hn Mw Mn T (mm + 1) (.slice (some ⟨g5, 0, none⟩) (ll + 1) cap5) x5 from by
              have h0 := unhide HJ1
              rw [unhide HLL] at h0
              refine BLs.grow h0 (unhide HT) ((Below.refl _ y1).alloc (Nat.le_refl _) (.cells #[.int .i64 (mm : Int)] 3)) (by rw [unhide HLL]; exact ho5) hg5 (by
                rcases hgg with q | q
                · exact .inl q
                · exact .inr (by rw [q]; simp)) hgl (unhide HXX).1 (unhide HXX).2.1 (unhide HXX).2.2)
            clear ho5 hg5 hgg hgl HRA HJ1 HLL HT
            go_wp2
            go_roundw
            case rel => exact ⟨j + 1, by omega, by go_num, by rw [← Nat.add_assoc, unhide HMM]; exact unhide HRR⟩
            case measure => simp [intOf]; omega
          | false =>
            have HRR := hide ((unhide HJ1).skip hT)
            clear hT HJ1
            generalize (lst T mm).length = ll at *
            go_wp2
            go_roundw
            case rel => exact ⟨j + 1, by omega, by go_num, by rw [← Nat.add_assoc, unhide HMM]; exact unhide HRR⟩
            case measure => simp [intOf]; omega
        · have hje : j = pn := by omega
          have hjn' : ¬ (j : Int) < (pn : Int) := by omega
          have HRR := hide (show BLs w0 w b jb pb mb X a n S L A hn Mw Mn T (min n (256 * (k + 1))) (.slice pw (lst T (256 * k + j)).length cw) wi from by rw [show min n (256 * (k + 1)) = 256 * k + j by omega]; exact hJ)
          clear hJ hcw
          generalize (lst T (256 * k + j)).length = ll at *
          go_wp2
          go_roundw
          case rel => exact ⟨k + 1, by omega, by go_num, unhide HRR⟩
          case measure => simp [intOf]; omega
    · have hke : k = P0 := by omega
      have hkn' : ¬ (k : Int) < (P0 : Int) := by omega
      have hm : min n (256 * k) = n := by omega
      rw [hm] at hI ⊢
      have HR := hide hI
      clear hI hcv
      generalize (lst T n).length = ll at *
      go_wp2
      go_ret2
      exact ⟨_, rfl, unhide HR⟩
theorem mcount_any {w0 w : World} {b jb pb mb : Nat} {X : Nat → Prop} {a n : Nat} {S : PS} {L : List ByteArray} {A : List (Nat × Nat)} {hn : Nat} {Mw Mn : List ByteArray} {T : Nat → Bool} (h : BG w0 w b jb pb mb X a n S L A hn Mw Mn T) : Calls Tryz.prog 27 #[.pointer (some ⟨mb, 0, none⟩)] w fun e w' => e = .returned (.tuple #[.int .i64 ((lst T n).length : Int), .int .i64 0]) ∧ Kept w0 w b jb pb mb X a n S L A hn Mw Mn T w' := by
  have HL := hide (mlist_any h)
  have HX := hide h.xm
  clear h
  go_enter Tryz.func27, Tryz.ntmps27
  go_wp2_with fail
  refine (unhide HL).mono ?_
  rintro e w' ⟨v, rfl, hI⟩
  obtain ⟨pv, cv, rfl, hcv⟩ := row_form hI.1
  have HI := hide hI
  clear hI hcv HL
  obtain ⟨ll, hll⟩ : ∃ q, (lst T n).length = q := ⟨_, rfl⟩
  rw [hll] at HI ⊢
  have HLL := hide hll
  clear hll
  go_wp2
  go_ret2
  obtain ⟨_, S', k1, k2, k3, k4⟩ := unhide HI
  exact ⟨by rw [unhide HLL]; rfl, S', k1.less (fun x q => .inl q) (unhide HX), k2, k3, k4⟩
end Go.Proofs.YtnnehadmnijhjaaGreatDoor

namespace Go.Proofs.YtnnehadmnijhjaaGreatDoor
open Go.RowKit Go.Maps Go.Sort Go.Shelf
/-- What a turn of place p leaves. -/
def Turned (w0 w : World) (b jb pb mb : Nat) (X : Nat → Prop) (a n : Nat) (S : PS) (L : List ByteArray) (A : List (Nat × Nat)) (hn : Nat) (Mw : List ByteArray) (T : Nat → Bool) (p : Nat) (w' : World) : Prop :=
  ∃ S' Mn', BG w0 w' b jb pb mb X a n S' L A hn Mw Mn' (flp T p) ∧ S'.op = true ∧ ((∃ t : ByteArray, t.size = 256 ∧ S'.tx = txPut ((a + p / 256 : Nat) : Int) t S.tx) ∧ S'.keep = S.keep) ∧ Only (fun x => ¬ X x) w w'
theorem BG.turn {w0 w : World} {b jb pb mb : Nat} {X : Nat → Prop} {a n : Nat} {S : PS} {L : List ByteArray} {A : List (Nat × Nat)} {hn : Nat} {Mw Mn : List ByteArray} {T : Nat → Bool} (h : BG w0 w b jb pb mb X a n S L A hn Mw Mn T) (ho : S.op = true) (p : Nat) (hp : p < n) (bd : ByteArray) (hpg : Pg n T (p / 256) bd (Mn.getD (a + p / 256) ByteArray.empty)) (hr : roomB S ((a + p / 256 : Nat) : Int) = true) :
    Calls Tryz.prog 55 #[.pointer (some ⟨mb, 0, none⟩), .string bd, .int .i64 (p : Int)] w fun e w' => e = .returned (.int .i64 0) ∧ Turned w0 w b jb pb mb X a n S L A hn Mw T p w' := by
  have h4 := pgs_le h.n2
  have hpk := pgs_lt hp
  have hlo := h.lo
  have hhi := h.hi
  have hn2 := h.n2
  have hc := mturn_any h.pk h.mp h.xm (by omega) bd hpg.1 p (by omega) (by omega)
  have hts : (pgT (p / 256) (turnB bd p)).size = 256 := pgT_size _ (by omega) _ (by rw [turnB_size]; exact hpg.1)
  obtain ⟨r1, r2, r3, r4⟩ := h.seen.write h.srt ho (a + p / 256) (by omega) (by omega) _ hts hr
  rw [r1] at hc
  refine hc.mono ?_
  rintro e w' ⟨rfl, K, hO⟩
  refine ⟨rfl, _, _, h.next K hO r2 (h.ms.turn p hp bd hpg (by rw [h.seen.ln]; exact hhi)), r3, ⟨⟨_, hts, r4⟩, (write_rest h.seen.rst _ _).2.2⟩, hO⟩
theorem BG.changeable {w0 w : World} {b jb pb mb : Nat} {X : Nat → Prop} {a n : Nat} {S : PS} {L : List ByteArray} {A : List (Nat × Nat)} {hn : Nat} {Mw Mn : List ByteArray} {T : Nat → Bool} (h : BG w0 w b jb pb mb X a n S L A hn Mw Mn T) : Calls Tryz.prog 54 #[.pointer (some ⟨mb, 0, none⟩)] w fun e w' => e = .returned (.bool S.op) ∧ BG w0 w' b jb pb mb X a n S L A hn Mw Mn T ∧ Only (fun x => ¬ X x) w w' := by
  have hc := changeable_any h.pk h.mp h.xm
  have e : chgS S = S := by
    unfold chgS
    cases ho : S.op with
    | true => rfl
    | false =>
      have ht := h.seen.cl ho
      rw [h.seen.rst.lost]
      obtain ⟨s, nx, jl, op, tx, keep, hh, hits, mis, lost⟩ := S
      simp only at ho ht
      subst ho ht
      rfl
  rw [e] at hc
  refine hc.mono ?_
  rintro e w' ⟨rfl, K, hO⟩
  exact ⟨rfl, h.next K hO h.seen h.ms, hO⟩
/-- The open transaction has written the map's own pages alone. -/
def TxI (S : PS) (a n : Nat) : Prop := ∀ p ∈ S.tx, (a : Int) ≤ p.1 ∧ p.1 < (a : Int) + (pgs n : Int)
theorem BG.room {w0 w : World} {b jb pb mb : Nat} {X : Nat → Prop} {a n : Nat} {S : PS} {L : List ByteArray} {A : List (Nat × Nat)} {hn : Nat} {Mw Mn : List ByteArray} {T : Nat → Bool} (h : BG w0 w b jb pb mb X a n S L A hn Mw Mn T) (ht : TxI S a n) (i : Int) : roomB S i = true := by
  have := tx_few h.srt h.n2 ht
  unfold roomB
  rw [Bool.or_eq_true]
  exact .inr (decide_eq_true (by omega))
theorem Turned.txi {w0 w : World} {b jb pb mb : Nat} {X : Nat → Prop} {a n : Nat} {S : PS} {L : List ByteArray} {A : List (Nat × Nat)} {hn : Nat} {Mw : List ByteArray} {T : Nat → Bool} {p : Nat} {w' : World} (h : Turned w0 w b jb pb mb X a n S L A hn Mw T p w') (ht : TxI S a n) (hp : p < n) : ∃ S' Mn', BG w0 w' b jb pb mb X a n S' L A hn Mw Mn' (flp T p) ∧ S'.op = true ∧ TxI S' a n ∧ S'.keep = S.keep ∧ Only (fun x => ¬ X x) w w' := by
  obtain ⟨S', Mn', k1, k2, ⟨⟨t, _, k3⟩, k5⟩, k4⟩ := h
  refine ⟨S', Mn', k1, k2, fun q hq => ?_, k5, k4⟩
  rw [k3] at hq
  rcases mem_put hq with e | e
  · have := pgs_lt hp
    rw [e]
    show (a : Int) ≤ ((a + p / 256 : Nat) : Int) ∧ ((a + p / 256 : Nat) : Int) < (a : Int) + (pgs n : Int)
    omega
  · exact ht q e
set_option maxRecDepth 100000 in
set_option maxHeartbeats 1000000 in
theorem mfree_none {w0 w : World} {b jb pb mb : Nat} {X : Nat → Prop} {a n : Nat} {S : PS} {L : List ByteArray} {A : List (Nat × Nat)} {hn : Nat} {Mw Mn : List ByteArray} {T : Nat → Bool} (h : BG w0 w b jb pb mb X a n S L A hn Mw Mn T) (ho : S.op = false) (i : Nat) (hi : i < n) : Calls Tryz.prog 26 #[.pointer (some ⟨mb, 0, none⟩), .int .i64 (i : Int)] w fun e w' => e = .returned (.int .i64 61) ∧ Kept w0 w b jb pb mb X a n S L A hn Mw Mn T w' := by
  have HH := hide (mhas_any h.mp (i : Int))
  rw [decide_eq_true (show (0 : Int) ≤ (i : Int) by omega), decide_eq_true (show (i : Int) < (n : Int) by omega)] at HH
  have HC := hide h.changeable
  rw [ho] at HC
  clear h ho hi
  go_enter Tryz.func26, Tryz.ntmps26
  go_wp2_with (first | (go_at_call 56; refine (unhide HH).mono ?_; rintro e w' ⟨rfl, hw'⟩; subst w'))
  refine (unhide HC).mono ?_
  rintro e x1 ⟨rfl, h1, hO1⟩
  have H1 := hide (And.intro h1 hO1)
  clear h1 hO1 HC HH
  go_wp2
  go_ret
  exact ⟨rfl, S, (unhide H1).1, rfl, Tk.refl _, (unhide H1).2⟩
set_option maxRecDepth 100000 in
set_option maxHeartbeats 1000000 in
theorem mfree_free {w0 w : World} {b jb pb mb : Nat} {X : Nat → Prop} {a n : Nat} {S : PS} {L : List ByteArray} {A : List (Nat × Nat)} {hn : Nat} {Mw Mn : List ByteArray} {T : Nat → Bool} (h : BG w0 w b jb pb mb X a n S L A hn Mw Mn T) (ho : S.op = true) (i : Nat) (hi : i < n) (hT : T i = false) : Calls Tryz.prog 26 #[.pointer (some ⟨mb, 0, none⟩), .int .i64 (i : Int)] w fun e w' => e = .returned (.int .i64 71) ∧ Kept w0 w b jb pb mb X a n S L A hn Mw Mn T w' := by
  have hn2 := h.n2
  have HH := hide (mhas_any h.mp (i : Int))
  rw [decide_eq_true (show (0 : Int) ≤ (i : Int) by omega), decide_eq_true (show (i : Int) < (n : Int) by omega)] at HH
  have HC := hide h.changeable
  rw [ho] at HC
  have HPO := hide (fun W => pageOf_any i (by omega) W)
  have HPL := hide (pgs_lt hi)
  have HIB := hide (show i < 1000000 by omega)
  obtain ⟨ik, hik⟩ : ∃ q, i / 256 = q := ⟨_, rfl⟩
  rw [hik] at HPO HPL
  have HIK := hide hik
  clear h ho hik
  go_enter Tryz.func26, Tryz.ntmps26
  go_wp2_with (first | (go_at_call 56; refine (unhide HH).mono ?_; rintro e w' ⟨rfl, hw'⟩; subst w'))
  refine (unhide HC).mono ?_
  rintro e x1 ⟨rfl, h1, hO1⟩
  obtain ⟨bd, hpg, hrd⟩ := h1.read ik (unhide HPL)
  have HR := hide hrd
  have HTK := hide (fun W => isTaken_any bd hpg.1 i (unhide HIB) W)
  rw [hpg.bit i hi (unhide HIK), hT] at HTK
  have HO1 := hide hO1
  clear hrd hpg h1 hO1 HC HH
  go_wp2_with (first | (go_at_call 57; refine (unhide HPO _).mono ?_; rintro e w' ⟨rfl, hw'⟩; subst w'))
  refine (unhide HR).mono ?_
  rintro e x2 ⟨rfl, hK⟩
  have HK := hide hK
  clear hK HR
  go_wp2_with (go_at_call 46; refine (unhide HTK _).mono ?_; rintro e x3 ⟨rfl, hb3⟩)
  go_ret
  obtain ⟨S', k1, k2, k3, k4⟩ := unhide HK
  exact ⟨rfl, S', k1.below hb3, k2, k3, ((unhide HO1).trans k4 (fun _ _ q => q)).trans (Only.of_below (P := fun x => ¬ X x) hb3) (fun _ _ q => q)⟩
set_option maxRecDepth 100000 in
set_option maxHeartbeats 1000000 in
theorem mfree_ok {w0 w : World} {b jb pb mb : Nat} {X : Nat → Prop} {a n : Nat} {S : PS} {L : List ByteArray} {A : List (Nat × Nat)} {hn : Nat} {Mw Mn : List ByteArray} {T : Nat → Bool} (h : BG w0 w b jb pb mb X a n S L A hn Mw Mn T) (ho : S.op = true) (i : Nat) (hi : i < n) (hT : T i = true) (hr : roomB S ((a + i / 256 : Nat) : Int) = true) : Calls Tryz.prog 26 #[.pointer (some ⟨mb, 0, none⟩), .int .i64 (i : Int)] w fun e w' => e = .returned (.int .i64 0) ∧ Turned w0 w b jb pb mb X a n S L A hn Mw T i w' := by
  have hn2 := h.n2
  have HH := hide (mhas_any h.mp (i : Int))
  rw [decide_eq_true (show (0 : Int) ≤ (i : Int) by omega), decide_eq_true (show (i : Int) < (n : Int) by omega)] at HH
  have HC := hide h.changeable
  rw [ho] at HC
  have HPO := hide (fun W => pageOf_any i (by omega) W)
  have HPL := hide (pgs_lt hi)
  have HIB := hide (show i < 1000000 by omega)
  have HRM := hide (And.intro ho hr)
  obtain ⟨ik, hik⟩ : ∃ q, i / 256 = q := ⟨_, rfl⟩
  rw [hik] at HPO HPL
  have HIK := hide hik
  clear h ho hik hr
  go_enter Tryz.func26, Tryz.ntmps26
  go_wp2_with (first | (go_at_call 56; refine (unhide HH).mono ?_; rintro e w' ⟨rfl, hw'⟩; subst w'))
  refine (unhide HC).mono ?_
  rintro e x1 ⟨rfl, h1, hO1⟩
  obtain ⟨bd, hpg, hrd⟩ := h1.read ik (unhide HPL)
  have HR := hide hrd
  have HTK := hide (fun W => isTaken_any bd hpg.1 i (unhide HIB) W)
  rw [hpg.bit i hi (unhide HIK), hT] at HTK
  have HO1 := hide hO1
  have HPG := hide hpg
  clear hrd hpg h1 hO1 HC HH
  go_wp2_with (first | (go_at_call 57; refine (unhide HPO _).mono ?_; rintro e w' ⟨rfl, hw'⟩; subst w'))
  refine (unhide HR).mono ?_
  rintro e x2 ⟨rfl, hK⟩
  have HK := hide hK
  clear hK HR
  go_wp2_with fail
  refine (unhide HTK _).mono ?_
  rintro e x3 ⟨rfl, hb3⟩
  obtain ⟨S', k1, k2, k3, k4⟩ := unhide HK
  have HTU := hide (BG.turn (k1.below hb3) (k2.trans (unhide HRM).1) i hi bd (by rw [unhide HIK]; exact unhide HPG) (by rw [show roomB S' _ = roomB S ((a + i / 256 : Nat) : Int) from by unfold roomB; rw [k3.1]]; exact (unhide HRM).2))
  have HX := hide (And.intro k3 (((unhide HO1).trans k4 (fun _ _ q => q)).trans (Only.of_below (P := fun x => ¬ X x) hb3) (fun _ _ q => q)))
  clear k1 k2 k3 k4 hb3 HTK HK
  go_wp2_with (go_at_call 55; refine (unhide HTU).mono ?_; rintro e x4 ⟨rfl, hTu⟩)
  go_ret
  obtain ⟨S2, M2, m1, m2, m3, m4⟩ := hTu
  exact ⟨rfl, S2, M2, m1, m2, ⟨by rw [← (unhide HX).1.1]; exact m3.1, m3.2.trans (unhide HX).1.2⟩, (unhide HX).2.trans m4 (fun _ _ q => q)⟩
end Go.Proofs.YtnnehadmnijhjaaGreatDoor
