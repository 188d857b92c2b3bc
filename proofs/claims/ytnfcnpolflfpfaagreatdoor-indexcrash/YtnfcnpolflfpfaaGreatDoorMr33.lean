import Derived.Test.YtnfcnpolflfpfaaGreatDoorMr32
namespace Go.Proofs.YtnfcnpolflfpfaaGreatDoor
open Go.RowKit Go.Maps Go.Sort Go.Shelf
theorem layP_in (ps : List (Nat × ByteArray)) : ∀ (l : List ByteArray) (k : Nat) (t : ByteArray), ps.Pairwise (fun a b => a.1 ≠ b.1) → (k, t) ∈ ps → k < l.length → (layP l ps).getD k ByteArray.empty = t := by
  induction ps with
  | nil => intro l k t _ h; cases h
  | cons p r ih =>
    intro l k t hp hm hk
    obtain ⟨h1, h2⟩ := List.pairwise_cons.1 hp
    rcases List.mem_cons.1 hm with q | q
    · subst q
      show (layP (l.set k t) r).getD k ByteArray.empty = t
      rw [layP_skip r _ k (fun p hp e => h1 p hp e.symm)]
      simp [List.getD_eq_getElem?_getD, hk]
    · exact ih (l.set p.1 p.2) k t h2 q (by simpa using hk)
theorem tx_lay {tx : Tx} (hs : Srt tx) (hm : ∀ p ∈ tx, 19 ≤ p.1) (M : List ByteArray) (k : Nat) (hk : k < M.length) : (layP M (natW tx)).getD k ByteArray.empty = (txAt tx (k : Int)).getD (M.getD k ByteArray.empty) := by
  cases e : txAt tx (k : Int) with
  | none =>
    rw [layP_skip]
    · rfl
    · intro p hp q
      obtain ⟨x, hx, rfl⟩ := List.mem_map.1 hp
      have h1 := at_none.1 e x hx
      have h2 := hm x hx
      simp only at q
      omega
  | some t =>
    have hmem := (at_some hs).1 e
    refine layP_in _ M k t ?_ (List.mem_map.2 ⟨_, hmem, by simp⟩) hk
    refine List.pairwise_map.2 (List.Pairwise.imp_of_mem (fun {p q} hp hq h => ?_) hs)
    have := hm p hp
    have := hm q hq
    simp only
    omega
/-- What is at hand of the free sectors is what the disk holds. -/
def Hok (h : Tx) (L : List ByteArray) : Prop := ∀ p ∈ h, 19 ≤ p.1 → p.1 < 128 → p.2 = L.getD p.1.toNat ByteArray.empty
theorem hLay_mem' {keep : Nat} {k : Int} {s : ByteArray} {h : Tx} {p : Int × ByteArray} (hp : p ∈ hLay keep k s h) : p = (k, s) ∨ (p ∈ h ∧ p.1 ≠ k) := by
  have := List.mem_of_mem_take hp
  rcases List.mem_cons.1 this with q | q
  · exact .inl q
  · exact .inr ((mem_del k h p).1 q)
theorem layAll_mem (keep : Nat) (l : Tx) : ∀ (h : Tx) (p : Int × ByteArray), p ∈ layAll keep l h → p ∈ l ∨ (p ∈ h ∧ ∀ q ∈ l, q.1 ≠ p.1) := by
  induction l with
  | nil => intro h p hp; exact .inr ⟨hp, fun q hq => by cases hq⟩
  | cons x r ih =>
    intro h p hp
    rcases ih (hLay keep x.1 x.2 h) p hp with q | ⟨q, q2⟩
    · exact .inl (List.mem_cons_of_mem _ q)
    · rcases hLay_mem' q with e | ⟨e1, e2⟩
      · exact .inl (by rw [e]; exact List.mem_cons_self ..)
      · exact .inr ⟨e1, fun y hy => by
          rcases List.mem_cons.1 hy with z | z
          · rw [z]; exact fun w => e2 w.symm
          · exact q2 y z⟩
theorem Hok.lay {h : Tx} {L : List ByteArray} (H : Hok h L) (keep k : Nat) (t : ByteArray) (ht : t = L.getD k ByteArray.empty) : Hok (hLay keep (k : Int) t h) L := fun p hp h1 h2 => by
  rcases hLay_mem hp with q | q
  · subst q; simpa using ht
  · exact H p q h1 h2
theorem Hok.commit {h : Tx} {L : List ByteArray} (H : Hok h L) (keep nx : Nat) {tx : Tx} (hs : Srt tx) (hl : tx.length ≤ 16) (hm : ∀ p ∈ tx, 19 ≤ p.1 ∧ p.1 < 128) (hL : L.length = 128) : Hok (layAll keep tx h) (comL L nx tx) := fun p hp h1 h2 => by
  have e0 : ((p.1.toNat : Nat) : Int) = p.1 := by omega
  have e1 := com_free L nx tx hl p.1.toNat (by omega)
  rw [e1, tx_lay hs (fun q hq => (hm q hq).1) L p.1.toNat (by omega), e0]
  rcases layAll_mem keep tx h p hp with q | ⟨q1, q2⟩
  · rw [(at_some hs).2 (show (p.1, p.2) ∈ tx from q)]
    rfl
  · rw [at_none.2 (fun x hx => q2 x hx)]
    exact H p q1 h1 h2
/-- What a pool, its disk and the two lists have to do with one another. -/
structure Seen (S : PS) (L : List ByteArray) (A : List (Nat × Nat)) (hn : Nat) (Mw Mn : List ByteArray) : Prop where
  rst : Rst S L A ((hn + 1) % 4294967296)
  len : L.length = 128
  siz : ∀ t ∈ L, t.size = 256
  hd : L.getD 1 ByteArray.empty = headB hn []
  hn : hn < 4294967296
  was : freeQ L Mw
  lw : Mw.length = 128
  ln : Mn.length = 128
  now : ∀ k : Nat, 19 ≤ k → k < 128 → Mn.getD k ByteArray.empty = (txAt S.tx (k : Int)).getD (Mw.getD k ByteArray.empty)
  cl : S.op = false → S.tx = []
  hok : Hok S.h L
theorem Seen.read {S : PS} {L : List ByteArray} {A : List (Nat × Nat)} {hn : Nat} {Mw Mn : List ByteArray} (h : Seen S L A hn Mw Mn) (k : Nat) (h1 : 19 ≤ k) (h2 : k < 128) : (readP S k).1 = Mn.getD k ByteArray.empty ∧ (readP S k).2.1 = 0 ∧ Seen (readP S k).2.2 L A hn Mw Mn ∧ (readP S k).2.2.op = S.op ∧ (readP S k).2.2.tx = S.tx := by
  have hk : k < L.length := by rw [h.len]; exact h2
  obtain ⟨r1, r2, r3, r4, _⟩ := read_rest h.rst k hk
  have hT : readT S.s (k : Int) = L.getD k ByteArray.empty := by rw [h.rst.s]; exact (read_rs L A k hk).2
  have key : (readP S k).1 = Mn.getD k ByteArray.empty ∧ Hok (readP S k).2.2.h L := by
    have hh : hasB S.s (k : Int) = true := by rw [h.rst.s]; show (decide (0 ≤ (k : Int)) && decide ((k : Int) < (L.length : Int))) = true; simp; omega
    have hr : readE S.s (k : Int) = 0 := by rw [h.rst.s]; exact (read_rs L A k hk).1
    rw [h.now k h1 h2, ← h.was k h1 hk]
    unfold readP
    rw [hh, h.rst.lost]
    cases ht : txAt S.tx (k : Int) with
    | some t => exact ⟨rfl, h.hok⟩
    | none =>
      cases hf : txAt S.h (k : Int) with
      | some t =>
        have hmem : ((k : Int), t) ∈ S.h := by
          unfold txAt at hf
          obtain ⟨x, hx, e⟩ := Option.map_eq_some_iff.1 hf
          have a1 := List.mem_of_find?_eq_some hx
          have a2 := List.find?_some hx
          simp only [beq_iff_eq] at a2
          rw [← a2, ← e]
          exact a1
        have ht' := h.hok _ hmem (by show (19 : Int) ≤ (k : Int); omega) (by show (k : Int) < 128; omega)
        simp only [Int.toNat_natCast] at ht'
        exact ⟨ht', h.hok.lay _ k t ht'⟩
      | none =>
        simp only [hr, if_true]
        exact ⟨hT, h.hok.lay _ k _ hT⟩
  exact ⟨key.1, r1, ⟨r2, h.len, h.siz, h.hd, h.hn, h.was, h.lw, h.ln, by rw [r4]; exact h.now, by rw [r3, r4]; exact h.cl, key.2⟩, r3, r4⟩
theorem Seen.begin {S : PS} {L : List ByteArray} {A : List (Nat × Nat)} {hn : Nat} {Mw Mn : List ByteArray} (h : Seen S L A hn Mw Mn) : beginE S = (if S.op then 60 else 0) ∧ Seen (beginS S) L A hn Mw Mn ∧ (beginS S).op = true ∧ (beginS S).tx = S.tx := by
  cases ho : S.op with
  | true => simp [beginE, beginS, ho, h]
  | false =>
    have hl := h.rst.lost
    refine ⟨by simp [beginE, ho, hl], ?_, by simp [beginS, ho, hl], by simp [beginS, ho, hl]⟩
    have e : beginS S = { S with op := true } := by simp [beginS, ho, hl]
    rw [e]
    exact ⟨⟨h.rst.s, h.rst.nx, h.rst.jl, h.rst.lost⟩, h.len, h.siz, h.hd, h.hn, h.was, h.lw, h.ln, h.now, fun q => (by cases q), h.hok⟩
theorem Seen.write {S : PS} {L : List ByteArray} {A : List (Nat × Nat)} {hn : Nat} {Mw Mn : List ByteArray} (h : Seen S L A hn Mw Mn) (hs : Srt S.tx) (ho : S.op = true) (k : Nat) (h1 : 19 ≤ k) (h2 : k < 128) (t : ByteArray) (ht : t.size = 256) (hr : roomB S (k : Int) = true) : refP S (k : Int) t = 0 ∧ Seen (writeP S (k : Int) t) L A hn Mw (Mn.set k t) ∧ (writeP S (k : Int) t).op = true ∧ (writeP S (k : Int) t).tx = txPut (k : Int) t S.tx := by
  have h0 : refP S (k : Int) t = 0 := by
    have e1 : hasB S.s (k : Int) = true := by rw [h.rst.s]; show (decide (0 ≤ (k : Int)) && decide ((k : Int) < (L.length : Int))) = true; have := h.len; simp; omega
    unfold refP
    rw [if_neg (by rw [e1]; simp), if_neg (by omega), if_neg (by omega), if_neg (by simp [ho]), if_neg (by simp [h.rst.lost]), if_pos hr]
  have e : writeP S (k : Int) t = putS S (k : Int) t := by unfold writeP; rw [if_pos h0]
  refine ⟨h0, ?_, by rw [e]; exact ho, by rw [e]; rfl⟩
  rw [e]
  refine ⟨⟨h.rst.s, h.rst.nx, h.rst.jl, h.rst.lost⟩, h.len, h.siz, h.hd, h.hn, h.was, h.lw, by rw [List.length_set]; exact h.ln, fun i a1 a2 => ?_, fun q => (by rw [show (putS S (k : Int) t).op = S.op from rfl, ho] at q; cases q), h.hok⟩
  show _ = (txAt (txPut (k : Int) t S.tx) (i : Int)).getD _
  rw [at_put hs]
  have hln := h.ln
  by_cases hik : i = k
  · subst hik
    rw [if_pos rfl]
    simp [List.getD_eq_getElem?_getD, show i < Mn.length by omega]
  · rw [if_neg (by omega), ← h.now i a1 a2]
    simp [List.getD_eq_getElem?_getD, Ne.symm hik]
theorem Seen.full {S : PS} {L : List ByteArray} {A : List (Nat × Nat)} {hn : Nat} {Mw Mn : List ByteArray} (h : Seen S L A hn Mw Mn) (ho : S.op = true) (k : Nat) (h1 : 19 ≤ k) (h2 : k < 128) (t : ByteArray) (ht : t.size = 256) (hr : roomB S (k : Int) = false) : refP S (k : Int) t = 62 ∧ writeP S (k : Int) t = S ∧ 16 ≤ S.tx.length := by
  have h0 : refP S (k : Int) t = 62 := by
    have e1 : hasB S.s (k : Int) = true := by rw [h.rst.s]; show (decide (0 ≤ (k : Int)) && decide ((k : Int) < (L.length : Int))) = true; have := h.len; simp; omega
    unfold refP
    rw [if_neg (by rw [e1]; simp), if_neg (by omega), if_neg (by omega), if_neg (by simp [ho]), if_neg (by simp [h.rst.lost]), if_neg (by rw [hr]; simp)]
  refine ⟨h0, by unfold writeP; rw [if_neg (by rw [h0]; decide)], ?_⟩
  unfold roomB at hr
  rw [Bool.or_eq_false_iff] at hr
  have := hr.2
  simp at this
  omega
theorem Seen.commit {S : PS} {L : List ByteArray} {A : List (Nat × Nat)} {hn : Nat} {Mw Mn : List ByteArray} (h : Seen S L A hn Mw Mn) (ho : S.op = true) (hs : Srt S.tx) (hl : S.tx.length ≤ 16) (hm : ∀ p ∈ S.tx, 19 ≤ p.1 ∧ p.1 < 128 ∧ p.2.size = 256) : commitPE S = 0 ∧ Seen (commitPS S) (comL L ((hn + 1) % 4294967296) S.tx) (A ++ comA S.tx) ((hn + 1) % 4294967296) Mn Mn ∧ (commitPS S).op = false := by
  have hg := tx_good hs hl hm
  obtain ⟨e1, e2, e3, e4, e5, e6⟩ := commit_rest h.rst ho h.len hg
  refine ⟨e1, ⟨e2, by rw [comL_len, h.len], com_size L _ S.tx hg h.siz, com_head L _ S.tx (by rw [h.len]; decide), by omega, fun k h1 h2 => ?_, h.ln, h.ln, fun k h1 h2 => by rw [e4]; rfl, fun _ => e4, ?_⟩, e3⟩
  · rw [comL_len, h.len] at h2
    rw [com_free L _ S.tx hl k h1, tx_lay hs (fun p hp => (hm p hp).1) L k (by rw [h.len]; exact h2), h.now k h1 h2, h.was k h1 (by rw [h.len]; exact h2)]
  · rw [e6]
    exact h.hok.commit _ _ hs hl (fun p hp => ⟨(hm p hp).1, (hm p hp).2.1⟩) h.len
theorem Seen.none {S : PS} {L : List ByteArray} {A : List (Nat × Nat)} {hn : Nat} {Mw Mn : List ByteArray} (_h : Seen S L A hn Mw Mn) (ho : S.op = false) : commitPE S = 61 ∧ commitPS S = S ∧ abortE S = 61 ∧ abortS S = S := by
  simp [commitPE, commitPS, abortE, abortS, ho]
theorem Seen.back {S : PS} {L : List ByteArray} {A : List (Nat × Nat)} {hn : Nat} {Mw Mn : List ByteArray} (h : Seen S L A hn Mw Mn) (S' : PS) (hr : Rst S' L A ((hn + 1) % 4294967296)) (ht : S'.tx = []) (hh : Hok S'.h L) : Seen S' L A hn Mw Mw :=
  ⟨hr, h.len, h.siz, h.hd, h.hn, h.was, h.lw, h.lw, fun k _ _ => by rw [ht]; rfl, fun _ => ht, hh⟩
end Go.Proofs.YtnfcnpolflfpfaaGreatDoor

namespace Go.Proofs.YtnfcnpolflfpfaaGreatDoor
open Go.RowKit Go.Maps Go.Sort Go.Shelf
/-- Sectors of noughts, from 19 up to k. -/
def zF (k : Nat) : List ByteArray := (List.range 128).map fun i => if 19 ≤ i ∧ i < k then zero256 else ⟨#[]⟩
end Go.Proofs.YtnfcnpolflfpfaaGreatDoor

namespace Go.Proofs.YtnfcnpolflfpfaaGreatDoor
open Go.RowKit Go.Maps Go.Sort Go.Shelf
theorem nodup_sub : ∀ (a b : List Int), a.Nodup → (∀ x ∈ a, x ∈ b) → a.length ≤ b.length
  | [], _, _, _ => Nat.zero_le _
  | x :: r, b, h, hs => by
    obtain ⟨h1, h2⟩ := List.nodup_cons.1 h
    have hx := hs x (by simp)
    have ih := nodup_sub r (b.erase x) h2 (fun y hy => by
      have hne : y ≠ x := fun e => h1 (by rw [← e]; exact hy)
      exact (List.mem_erase_of_ne hne).2 (hs y (by simp [hy])))
    rw [List.length_erase_of_mem hx] at ih
    have := List.length_pos_of_mem hx
    simp only [List.length_cons]
    omega
/-- m places, one behind the other, of 109. -/
def rotL (o m : Nat) : List Int := (List.range m).map fun s => 19 + (((o + s) % 109 : Nat) : Int)
structure FuS (S : PS) (Mn : List ByteArray) (ks : List Int) : Prop where
  seen : Seen S L0 A0 0 (zF 128) Mn
  op : S.op = true
  tx : ∀ x : Int, (txAt S.tx x).isSome = true ↔ x ∈ ks
  len : S.tx.length = ks.length
  rng : ∀ x ∈ ks, 19 ≤ x ∧ x < 128
  zer : ∀ k : Nat, 19 ≤ k → k < 128 → ((k : Nat) : Int) ∉ ks → Mn.getD k ByteArray.empty = zero256
theorem FuS.write {S : PS} {Mn : List ByteArray} {ks : List Int} (h : FuS S Mn ks) (hs : Srt S.tx) (k : Nat) (h1 : 19 ≤ k) (h2 : k < 128) (t : ByteArray) (ht : t.size = 256) (hr : (k : Int) ∈ ks ∨ ks.length < 16) :
    refP S (k : Int) t = 0 ∧ FuS (writeP S (k : Int) t) (Mn.set k t) (if (k : Int) ∈ ks then ks else ks ++ [(k : Int)]) := by
  have hroom : roomB S (k : Int) = true := by
    unfold roomB
    rw [Bool.or_eq_true]
    rcases hr with q | q
    · exact .inl ((h.tx _).2 q)
    · exact .inr (decide_eq_true (by have := h.len; omega))
  obtain ⟨a1, a2, a3, a4⟩ := h.seen.write hs h.op k h1 h2 t ht hroom
  have hln := h.seen.ln
  have hat : ∀ x : Int, (txAt (txPut (k : Int) t S.tx) x).isSome = true ↔ x = (k : Int) ∨ x ∈ ks := fun x => by
    rw [at_put hs]
    by_cases e : x = (k : Int)
    · simp [e]
    · rw [if_neg e, h.tx x]; simp [e]
  have hzer : ∀ (ks' : List Int), (∀ x, x ∈ ks' ↔ x = (k : Int) ∨ x ∈ ks) → ∀ i : Nat, 19 ≤ i → i < 128 → ((i : Nat) : Int) ∉ ks' → (Mn.set k t).getD i ByteArray.empty = zero256 := fun ks' hk i i1 i2 hi => by
    have : k ≠ i := fun e => hi ((hk _).2 (.inl (by omega)))
    rw [getD_set_other _ k i _ this]
    exact h.zer i i1 i2 (fun q => hi ((hk _).2 (.inr q)))
  refine ⟨a1, ?_⟩
  by_cases hm : (k : Int) ∈ ks
  · rw [if_pos hm]
    refine ⟨a2, a3, fun x => ?_, ?_, h.rng, hzer ks (fun x => ⟨.inr, fun q => q.elim (fun e => e ▸ hm) id⟩)⟩
    · rw [a4, hat x]
      exact ⟨fun q => q.elim (fun e => e ▸ hm) id, .inr⟩
    · rw [a4, put_len hs, if_pos ((h.tx _).2 hm), h.len]
  · rw [if_neg hm]
    refine ⟨a2, a3, fun x => ?_, ?_, fun x hx => ?_, hzer _ (fun x => by simp [or_comm])⟩
    · rw [a4, hat x]; simp [or_comm]
    · rw [a4, put_len hs, if_neg (fun q => hm ((h.tx _).1 q)), h.len]; simp
    · rcases List.mem_append.1 hx with q | q
      · exact h.rng x q
      · simp at q; subst q; exact ⟨by omega, by omega⟩
def FuI (w : World) (b jb pb : Nat) (l : List Int) (ks : List Int) (k : Nat) (v : Value) (wr : World) : Prop :=
  ∃ S Mn, PK w wr b jb pb S (fun x => v.ownBlock = some x) ∧ FuS S Mn ks ∧ wr.ownsRow w.heap.size 3 1 v ks.length (ks.map encZ) ∧ ks.length ≤ 16 ∧ (∀ j : Nat, l.length ≤ j → j < k → 19 + ((j % 109 : Nat) : Int) ∈ ks)
theorem PK.srt {w0 w : World} {b jb pb : Nat} {S : PS} {X : Nat → Prop} (K : PK w0 w b jb pb S X) : Srt S.tx := by
  obtain ⟨bw, bv, ov, K⟩ := K
  exact K.tx.2
end Go.Proofs.YtnfcnpolflfpfaaGreatDoor
