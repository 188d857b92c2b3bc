import Derived.Test.YtkkndlkelpdehaaGreatDoorMr34
namespace Go.Proofs.YtkkndlkelpdehaaGreatDoor
open Go.RowKit Go.Maps Go.Sort Go.Shelf
theorem layP_in (ps : List (Nat × ByteArray)) : ∀ (l : List ByteArray) (k : Nat) (t : ByteArray), ps.Pairwise (fun a b => a.1 ≠ b.1) → (k, t) ∈ ps → k < l.length → (layP l ps).getD k ByteArray.empty = t := by
  induction ps with
  | nil => intro l k t _ h; cases h
  | cons p r ih =>
    intro l k t hp hm hk
    obtain ⟨h1, h2⟩ := List.pairwise_cons.1 hp
    rcases List.mem_cons.1 hm with q | q
    · subst q
      show (layP (l.set k t) r).getD k ByteArray.empty = t
      rw [layP_skip r _ k (fun p hp e => h1 p hp e.symm)]
      simp [List.getD_eq_getElem?_getD, hk]
    · exact ih (l.set p.1 p.2) k t h2 q (by simpa using hk)
theorem tx_lay {tx : Tx} (hs : Srt tx) (hm : ∀ p ∈ tx, 19 ≤ p.1) (M : List ByteArray) (k : Nat) (hk : k < M.length) : (layP M (natW tx)).getD k ByteArray.empty = (txAt tx (k : Int)).getD (M.getD k ByteArray.empty) := by
  cases e : txAt tx (k : Int) with
  | none =>
    rw [layP_skip]
    · rfl
    · intro p hp q
      obtain ⟨x, hx, rfl⟩ := List.mem_map.1 hp
      have h1 := at_none.1 e x hx
      have h2 := hm x hx
      simp only at q
      omega
  | some t =>
    have hmem := (at_some hs).1 e
    refine layP_in _ M k t ?_ (List.mem_map.2 ⟨_, hmem, by simp⟩) hk
    refine List.pairwise_map.2 (List.Pairwise.imp_of_mem (fun {p q} hp hq h => ?_) hs)
    have := hm p hp
    have := hm q hq
    simp only
    omega
/-- What is at hand of the free sectors is what the disk holds. -/
def Hok (h : Tx) (L : List ByteArray) : Prop := ∀ p ∈ h, 19 ≤ p.1 → p.1 < 128 → p.2 = L.getD p.1.toNat ByteArray.empty
theorem hLay_mem' {keep : Nat} {k : Int} {s : ByteArray} {h : Tx} {p : Int × ByteArray} (hp : p ∈ hLay keep k s h) : p = (k, s) ∨ (p ∈ h ∧ p.1 ≠ k) := by
  have := List.mem_of_mem_take hp
  rcases List.mem_cons.1 this with q | q
  · exact .inl q
  · exact .inr ((mem_del k h p).1 q)
theorem layAll_mem (keep : Nat) (l : Tx) : ∀ (h : Tx) (p : Int × ByteArray), p ∈ layAll keep l h → p ∈ l ∨ (p ∈ h ∧ ∀ q ∈ l, q.1 ≠ p.1) := by
  induction l with
  | nil => intro h p hp; exact .inr ⟨hp, fun q hq => by cases hq⟩
  | cons x r ih =>
    intro h p hp
    rcases ih (hLay keep x.1 x.2 h) p hp with q | ⟨q, q2⟩
    · exact .inl (List.mem_cons_of_mem _ q)
    · rcases hLay_mem' q with e | ⟨e1, e2⟩
      · exact .inl (by rw [e]; exact List.mem_cons_self ..)
      · exact .inr ⟨e1, fun y hy => by
          rcases List.mem_cons.1 hy with z | z
          · rw [z]; exact fun w => e2 w.symm
          · exact q2 y z⟩
theorem Hok.lay {h : Tx} {L : List ByteArray} (H : Hok h L) (keep k : Nat) (t : ByteArray) (ht : t = L.getD k ByteArray.empty) : Hok (hLay keep (k : Int) t h) L := fun p hp h1 h2 => by
  rcases hLay_mem hp with q | q
  · subst q; simpa using ht
  · exact H p q h1 h2
theorem Hok.commit {h : Tx} {L : List ByteArray} (H : Hok h L) (keep nx : Nat) {tx : Tx} (hs : Srt tx) (hl : tx.length ≤ 16) (hm : ∀ p ∈ tx, 19 ≤ p.1 ∧ p.1 < 128) (hL : L.length = 128) : Hok (layAll keep tx h) (comL L nx tx) := fun p hp h1 h2 => by
  have e0 : ((p.1.toNat : Nat) : Int) = p.1 := by omega
  have e1 := com_free L nx tx hl p.1.toNat (by omega)
  rw [e1, tx_lay hs (fun q hq => (hm q hq).1) L p.1.toNat (by omega), e0]
  rcases layAll_mem keep tx h p hp with q | ⟨q1, q2⟩
  · rw [(at_some hs).2 (show (p.1, p.2) ∈ tx from q)]
    rfl
  · rw [at_none.2 (fun x hx => q2 x hx)]
    exact H p q1 h1 h2
/-- What a pool, its disk and the two lists have to do with one another. -/
structure Seen (S : PS) (L : List ByteArray) (A : List (Nat × Nat)) (hn : Nat) (Mw Mn : List ByteArray) : Prop where
  rst : Rst S L A ((hn + 1) % 4294967296)
  len : L.length = 128
  siz : ∀ t ∈ L, t.size = 256
  hd : L.getD 1 ByteArray.empty = headB hn []
  hn : hn < 4294967296
  was : freeQ L Mw
  lw : Mw.length = 128
  ln : Mn.length = 128
  now : ∀ k : Nat, 19 ≤ k → k < 128 → Mn.getD k ByteArray.empty = (txAt S.tx (k : Int)).getD (Mw.getD k ByteArray.empty)
  cl : S.op = false → S.tx = []
  hok : Hok S.h L
theorem Seen.read {S : PS} {L : List ByteArray} {A : List (Nat × Nat)} {hn : Nat} {Mw Mn : List ByteArray} (h : Seen S L A hn Mw Mn) (k : Nat) (h1 : 19 ≤ k) (h2 : k < 128) : (readP S k).1 = Mn.getD k ByteArray.empty ∧ (readP S k).2.1 = 0 ∧ Seen (readP S k).2.2 L A hn Mw Mn ∧ (readP S k).2.2.op = S.op ∧ (readP S k).2.2.tx = S.tx := by
  have hk : k < L.length := by rw [h.len]; exact h2
  obtain ⟨r1, r2, r3, r4, _⟩ := read_rest h.rst k hk
  have hT : readT S.s (k : Int) = L.getD k ByteArray.empty := by rw [h.rst.s]; exact (read_rs L A k hk).2
  have key : (readP S k).1 = Mn.getD k ByteArray.empty ∧ Hok (readP S k).2.2.h L := by
    have hh : hasB S.s (k : Int) = true := by rw [h.rst.s]; show (decide (0 ≤ (k : Int)) && decide ((k : Int) < (L.length : Int))) = true; simp; omega
    have hr : readE S.s (k : Int) = 0 := by rw [h.rst.s]; exact (read_rs L A k hk).1
    rw [h.now k h1 h2, ← h.was k h1 hk]
    unfold readP
    rw [hh, h.rst.lost]
    cases ht : txAt S.tx (k : Int) with
    | some t => exact ⟨rfl, h.hok⟩
    | none =>
      cases hf : txAt S.h (k : Int) with
      | some t =>
        have hmem : ((k : Int), t) ∈ S.h := by
          unfold txAt at hf
          obtain ⟨x, hx, e⟩ := Option.map_eq_some_iff.1 hf
          have a1 := List.mem_of_find?_eq_some hx
          have a2 := List.find?_some hx
          simp only [beq_iff_eq] at a2
          rw [← a2, ← e]
          exact a1
        have ht' := h.hok _ hmem (by show (19 : Int) ≤ (k : Int); omega) (by show (k : Int) < 128; omega)
        simp only [Int.toNat_natCast] at ht'
        exact ⟨ht', h.hok.lay _ k t ht'⟩
      | none =>
        simp only [hr, if_true]
        exact ⟨hT, h.hok.lay _ k _ hT⟩
  exact ⟨key.1, r1, ⟨r2, h.len, h.siz, h.hd, h.hn, h.was, h.lw, h.ln, by rw [r4]; exact h.now, by rw [r3, r4]; exact h.cl, key.2⟩, r3, r4⟩
theorem Seen.begin {S : PS} {L : List ByteArray} {A : List (Nat × Nat)} {hn : Nat} {Mw Mn : List ByteArray} (h : Seen S L A hn Mw Mn) : beginE S = (if S.op then 60 else 0) ∧ Seen (beginS S) L A hn Mw Mn ∧ (beginS S).op = true ∧ (beginS S).tx = S.tx := by
  cases ho : S.op with
  | true => simp [beginE, beginS, ho, h]
  | false =>
    have hl := h.rst.lost
    refine ⟨by simp [beginE, ho, hl], ?_, by simp [beginS, ho, hl], by simp [beginS, ho, hl]⟩
    have e : beginS S = { S with op := true } := by simp [beginS, ho, hl]
    rw [e]
    exact ⟨⟨h.rst.s, h.rst.nx, h.rst.jl, h.rst.lost⟩, h.len, h.siz, h.hd, h.hn, h.was, h.lw, h.ln, h.now, fun q => (by cases q), h.hok⟩
theorem Seen.write {S : PS} {L : List ByteArray} {A : List (Nat × Nat)} {hn : Nat} {Mw Mn : List ByteArray} (h : Seen S L A hn Mw Mn) (hs : Srt S.tx) (ho : S.op = true) (k : Nat) (h1 : 19 ≤ k) (h2 : k < 128) (t : ByteArray) (ht : t.size = 256) (hr : roomB S (k : Int) = true) : refP S (k : Int) t = 0 ∧ Seen (writeP S (k : Int) t) L A hn Mw (Mn.set k t) ∧ (writeP S (k : Int) t).op = true ∧ (writeP S (k : Int) t).tx = txPut (k : Int) t S.tx := by
  have h0 : refP S (k : Int) t = 0 := by
    have e1 : hasB S.s (k : Int) = true := by rw [h.rst.s]; show (decide (0 ≤ (k : Int)) && decide ((k : Int) < (L.length : Int))) = true; have := h.len; simp; omega
    unfold refP
    rw [if_neg (by rw [e1]; simp), if_neg (by omega), if_neg (by omega), if_neg (by simp [ho]), if_neg (by simp [h.rst.lost]), if_pos hr]
  have e : writeP S (k : Int) t = putS S (k : Int) t := by unfold writeP; rw [if_pos h0]
  refine ⟨h0, ?_, by rw [e]; exact ho, by rw [e]; rfl⟩
  rw [e]
  refine ⟨⟨h.rst.s, h.rst.nx, h.rst.jl, h.rst.lost⟩, h.len, h.siz, h.hd, h.hn, h.was, h.lw, by rw [List.length_set]; exact h.ln, fun i a1 a2 => ?_, fun q => (by rw [show (putS S (k : Int) t).op = S.op from rfl, ho] at q; cases q), h.hok⟩
  show _ = (txAt (txPut (k : Int) t S.tx) (i : Int)).getD _
  rw [at_put hs]
  have hln := h.ln
  by_cases hik : i = k
  · subst hik
    rw [if_pos rfl]
    simp [List.getD_eq_getElem?_getD, show i < Mn.length by omega]
  · rw [if_neg (by omega), ← h.now i a1 a2]
    simp [List.getD_eq_getElem?_getD, Ne.symm hik]
theorem Seen.full {S : PS} {L : List ByteArray} {A : List (Nat × Nat)} {hn : Nat} {Mw Mn : List ByteArray} (h : Seen S L A hn Mw Mn) (ho : S.op = true) (k : Nat) (h1 : 19 ≤ k) (h2 : k < 128) (t : ByteArray) (ht : t.size = 256) (hr : roomB S (k : Int) = false) : refP S (k : Int) t = 62 ∧ writeP S (k : Int) t = S ∧ 16 ≤ S.tx.length := by
  have h0 : refP S (k : Int) t = 62 := by
    have e1 : hasB S.s (k : Int) = true := by rw [h.rst.s]; show (decide (0 ≤ (k : Int)) && decide ((k : Int) < (L.length : Int))) = true; have := h.len; simp; omega
    unfold refP
    rw [if_neg (by rw [e1]; simp), if_neg (by omega), if_neg (by omega), if_neg (by simp [ho]), if_neg (by simp [h.rst.lost]), if_neg (by rw [hr]; simp)]
  refine ⟨h0, by unfold writeP; rw [if_neg (by rw [h0]; decide)], ?_⟩
  unfold roomB at hr
  rw [Bool.or_eq_false_iff] at hr
  have := hr.2
  simp at this
  omega
theorem Seen.shut {S : PS} {L : List ByteArray} {A : List (Nat × Nat)} {hn : Nat} {Mw Mn : List ByteArray} (h : Seen S L A hn Mw Mn) (ho : S.op = false) (k : Nat) (h1 : 19 ≤ k) (h2 : k < 128) (t : ByteArray) (ht : t.size = 256) : refP S (k : Int) t = 61 ∧ writeP S (k : Int) t = S := by
  have h0 : refP S (k : Int) t = 61 := by
    have e1 : hasB S.s (k : Int) = true := by rw [h.rst.s]; show (decide (0 ≤ (k : Int)) && decide ((k : Int) < (L.length : Int))) = true; have := h.len; simp; omega
    unfold refP
    rw [if_neg (by rw [e1]; simp), if_neg (by omega), if_neg (by omega), if_pos ho]
  exact ⟨h0, by unfold writeP; rw [if_neg (by rw [h0]; decide)]⟩
theorem Seen.commit {S : PS} {L : List ByteArray} {A : List (Nat × Nat)} {hn : Nat} {Mw Mn : List ByteArray} (h : Seen S L A hn Mw Mn) (ho : S.op = true) (hs : Srt S.tx) (hl : S.tx.length ≤ 16) (hm : ∀ p ∈ S.tx, 19 ≤ p.1 ∧ p.1 < 128 ∧ p.2.size = 256) : commitPE S = 0 ∧ Seen (commitPS S) (comL L ((hn + 1) % 4294967296) S.tx) (A ++ comA S.tx) ((hn + 1) % 4294967296) Mn Mn ∧ (commitPS S).op = false := by
  have hg := tx_good hs hl hm
  obtain ⟨e1, e2, e3, e4, e5, e6⟩ := commit_rest h.rst ho h.len hg
  refine ⟨e1, ⟨e2, by rw [comL_len, h.len], com_size L _ S.tx hg h.siz, com_head L _ S.tx (by rw [h.len]; decide), by omega, fun k h1 h2 => ?_, h.ln, h.ln, fun k h1 h2 => by rw [e4]; rfl, fun _ => e4, ?_⟩, e3⟩
  · rw [comL_len, h.len] at h2
    rw [com_free L _ S.tx hl k h1, tx_lay hs (fun p hp => (hm p hp).1) L k (by rw [h.len]; exact h2), h.now k h1 h2, h.was k h1 (by rw [h.len]; exact h2)]
  · rw [e6]
    exact h.hok.commit _ _ hs hl (fun p hp => ⟨(hm p hp).1, (hm p hp).2.1⟩) h.len
theorem Seen.none {S : PS} {L : List ByteArray} {A : List (Nat × Nat)} {hn : Nat} {Mw Mn : List ByteArray} (_h : Seen S L A hn Mw Mn) (ho : S.op = false) : commitPE S = 61 ∧ commitPS S = S ∧ abortE S = 61 ∧ abortS S = S := by
  simp [commitPE, commitPS, abortE, abortS, ho]
theorem Seen.back {S : PS} {L : List ByteArray} {A : List (Nat × Nat)} {hn : Nat} {Mw Mn : List ByteArray} (h : Seen S L A hn Mw Mn) (S' : PS) (hr : Rst S' L A ((hn + 1) % 4294967296)) (ht : S'.tx = []) (hh : Hok S'.h L) : Seen S' L A hn Mw Mw :=
  ⟨hr, h.len, h.siz, h.hd, h.hn, h.was, h.lw, h.lw, fun k _ _ => by rw [ht]; rfl, fun _ => ht, hh⟩
end Go.Proofs.YtkkndlkelpdehaaGreatDoor

namespace Go.Proofs.YtkkndlkelpdehaaGreatDoor
open Go.RowKit Go.Maps Go.Sort Go.Shelf
theorem infoS1 : (Tryz.prog.info? 9).map (·.size) = some 1 := by kernel_rfl
theorem copy128 {w : World} {gd gs : Nat} {D M : List ByteArray} (hD : Blk w gd (strs D).toArray 9) (hM : Blk w gs (strs M).toArray 9) (h1 : D.length = 128) (h2 : M.length = 128) (ty : TypeId) :
    ∃ w', (Builtin.copy_ #[73, 73] ty #[.slice (some ⟨gd, 0, none⟩) 128 128, .slice (some ⟨gs, 0, none⟩) 128 128]).run Tryz.prog w = .ok (.int .i64 128) w' ∧ Blk w' gd (strs M).toArray 9 ∧ Only (fun x => x = gd) w w' := by
  have hl : (strs M).length = 128 := by rw [strs_len, h2]
  have hr := run_copy_rowK w 73 73 ty 9 1 gd 0 128 128 ⟨gs, 0, none⟩ 128 128 (strs D).toArray 9 (strs M) 128 Tryz.underlying73 infoS1 hD rfl (by rw [hl]) (fun j v hv => by
    rw [Addr.add_mid, Nat.zero_add, hM.cell]; simpa using hv) (by simp [strs_len, h1, h2]) (fun v hv => by
    obtain ⟨x, _, rfl⟩ := List.mem_map.1 hv
    rfl)
  have e : ((strs D).toArray.toList.take 0 ++ strs M ++ (strs D).toArray.toList.drop (0 + (strs M).length)).toArray = (strs M).toArray := by
    have : (strs D).drop 128 = [] := List.drop_eq_nil_of_le (by rw [strs_len, h1]; exact Nat.le_refl _)
    simp [hl, this]
  rw [e] at hr
  exact ⟨_, hr, setRow_heap w gd (strs D).toArray _ 9 (0, 0) hD, setRow_only w gd _⟩
/-- Sectors of noughts, from 19 up to k. -/
def zF (k : Nat) : List ByteArray := (List.range 128).map fun i => if 19 ≤ i ∧ i < k then zero256 else ⟨#[]⟩
theorem zF_len (k : Nat) : (zF k).length = 128 := by simp [zF]
theorem zF_step (k : Nat) (h1 : 19 ≤ k) : (zF k).set k zero256 = zF (k + 1) := by
  apply List.ext_getElem
  · simp [zF]
  · intro j a b
    simp only [zF, List.getElem_set, List.getElem_map, List.getElem_range]
    by_cases e : k = j
    · subst e; simp [h1]
    · rw [if_neg e]
      by_cases h : 19 ≤ j ∧ j < k
      · rw [if_pos h, if_pos (by omega)]
      · rw [if_neg h, if_neg (by omega)]
theorem zF_start : zF 19 = List.replicate 128 ⟨#[]⟩ := by
  refine List.eq_replicate_iff.2 ⟨zF_len 19, fun x hx => ?_⟩
  obtain ⟨j, _, rfl⟩ := List.mem_map.1 hx
  rw [if_neg (by omega)]
theorem zF_at (k : Nat) (h1 : 19 ≤ k) (h2 : k < 128) : (zF 128).getD k ByteArray.empty = zero256 := by
  simp [zF, List.getD_eq_getElem?_getD, h1, h2]
theorem zero_rep : bytesB ⟨#[0]⟩ = zero256 := by
  rw [bytesB, if_pos (show (⟨#[0]⟩ : ByteArray).size = 1 from rfl), zero_nums]
  rfl
theorem L0_free (k : Nat) (h1 : 19 ≤ k) (h2 : k < 128) : L0.getD k ByteArray.empty = zero256 := by
  unfold L0
  rw [getD_set_other _ 1 k _ (by omega), List.getD_eq_getElem?_getD, List.getElem?_replicate_of_lt h2]
  rfl
theorem seen0 (keep : Nat) : Seen (freshP keep) L0 A0 0 (zF 128) (zF 128) :=
  ⟨⟨rfl, rfl, rfl, rfl⟩, L0_len, L0_size, head0, by decide, fun k h1 h2 => by rw [L0_len] at h2; rw [L0_free k h1 h2, zF_at k h1 h2], zF_len 128, zF_len 128, fun _ _ _ => rfl, fun _ => rfl, fun p hp => by cases hp⟩
/-- Open of the disk of a pool that is let be. -/
theorem openP {w0 w : World} {b jb : Nat} {L : List ByteArray} {A : List (Nat × Nat)} {nx : Nat} {jl : Bool} {X : Nat → Prop} (h : JK w0 w b jb (rs L A) nx jl X) (hg : ETy w) (n : Nat) (hn : n < 4294967296) (hL : 1 < L.length) (hh : L.getD 1 ByteArray.empty = headB n []) (ha : A.length ≤ 10000000) :
    Calls Tryz.prog 41 #[.pointer (some ⟨b, 0, none⟩)] w fun e w' => ∃ jb', e = .returned (.tuple #[.pointer (some ⟨jb', 0, none⟩), .bool false, .int .i64 0]) ∧ JK w0 w' b jb' (rs L A) ((n + 1) % 4294967296) false X ∧ Only (fun x => ¬ X x) w w' := by
  obtain ⟨v, h1, h2, h3, h4, h5, h6, h7⟩ := h
  refine (open_clear h1 hg h5.size h6 n hn hL hh ha).mono ?_
  rintro e w' ⟨jb', rfl, v', k1, k2, k3, k4, k5, k6⟩
  have hb := h5.size
  refine ⟨jb', rfl, ⟨v', k1, k2, k3, by omega, DI.only h1 h5 k5, h6, fun x hx => ⟨fun q => ?_, ?_, ?_⟩⟩, k5.widen (fun k _ q r => (h7 k r).1 q)⟩
  · rcases k6 x q with r | r
    · exact (h7 x hx).1 r
    · have := (h7 x hx).2.2; omega
  · have := (h7 x hx).2.2; omega
  · exact Nat.lt_of_lt_of_le (h7 x hx).2.2 k5.size
/-- The pool over it. -/
theorem popenP {w0 w : World} {b jb pb : Nat} {S : PS} {L : List ByteArray} {A : List (Nat × Nat)} {X : Nat → Prop} (K : PK w0 w b jb pb S X) (hs : S.s = rs L A) (hg : ETy w) (n : Nat) (hn : n < 4294967296) (hL : 1 < L.length) (hh : L.getD 1 ByteArray.empty = headB n []) (ha : A.length ≤ 10000000) (keep : Nat) (hk : keep ≤ 64) :
    Calls Tryz.prog 19 #[.pointer (some ⟨b, 0, none⟩), .int .i64 (keep : Int)] w fun e w' => ∃ jb' pb', e = .returned (.tuple #[.pointer (some ⟨pb', 0, none⟩), .int .i64 0]) ∧ PK w0 w' b jb' pb' (restP L A ((n + 1) % 4294967296) keep) X ∧ Only (fun x => ¬ X x) w w' := by
  obtain ⟨bw, bv, ov, K⟩ := K
  have hj : JK w0 w b jb (rs L A) S.nx S.jl X := by
    have := K.jk.less X (fun x q => .inl q)
    rwa [hs] at this
  refine (popen_any w b keep hk (fun jp ag er w1 => er = 0 ∧ ∃ jb', jp = some ⟨jb', 0, none⟩ ∧ JK w0 w1 b jb' (rs L A) ((n + 1) % 4294967296) false X ∧ Only (fun x => ¬ X x) w w1) ((openP hj hg n hn hL hh ha).mono (fun e w1 q => by
    obtain ⟨jb', rfl, q1, q2⟩ := q
    exact ⟨_, _, _, rfl, rfl, jb', rfl, q1, q2⟩))).mono ?_
  rintro e w' ⟨jp, ag, er, w1, ⟨rfl, jb', rfl, hJ, hO⟩, q | ⟨_, pb', bw', bv', rfl, hP⟩⟩
  · exact absurd rfl q.1
  · exact ⟨jb', pb', rfl, POk.pk hJ hk hP, hO.trans (Only.of_below (P := fun x => ¬ X x) hP.2.2.2.2.2.2.2) (fun _ _ q => q)⟩
end Go.Proofs.YtkkndlkelpdehaaGreatDoor

namespace Go.Proofs.YtkkndlkelpdehaaGreatDoor
open Go.RowKit Go.Maps Go.Sort Go.Shelf
theorem owns_lower {w : World} {base base' : Nat} {e : TypeId} {size n : Nat} {v : Value} {xs : List Value} (h : w.ownsRow base e size v n xs) (hb : base' ≤ base) : w.ownsRow base' e size v n xs := by
  refine ⟨h.1, ?_⟩
  rcases h.2 with q | ⟨g, cap, cur, e1, e2, r⟩
  · exact .inl q
  · exact .inr ⟨g, cap, cur, e1, Nat.le_trans hb e2, r⟩
/-- F are the blocks of a pool: whoever leaves them alone leaves the pool as it is. -/
def Ft (w0 : World) (b jb pb : Nat) (S : PS) (F : Nat → Prop) (w : World) : Prop :=
  (∀ x, F x → w0.heap.size ≤ x ∧ x < w.heap.size) ∧ ∀ (w' : World) (P Y : Nat → Prop), Only P w w' → (∀ x, F x → ¬ P x) → Below w0.heap.size w0 w' → (∀ x, Y x → ¬ F x ∧ x < w'.heap.size) → PK w0 w' b jb pb S Y
theorem PK.foot2 {w w0 x : World} {b jb pb : Nat} {S : PS} {X : Nat → Prop} (K : PK w0 x b jb pb S X) (hw : Below w.heap.size w w0) : ∃ F, Ft w b jb pb S F x ∧ (∀ k, F k → w0.heap.size ≤ k) ∧ ∀ k, X k → ¬ F k := by
  obtain ⟨bw, bv, ov, K⟩ := K
  obtain ⟨v, h1, h2, h3, h4, h5, h6, h7⟩ := K.jk
  have hs := hw.size
  have lo : ∀ k, (Fd b v k ∨ k = jb ∨ Pf pb bw bv ov k) → w0.heap.size ≤ k := fun k hk => by
    rcases hk with q | q | q | q | q | q
    · exact (h1.fd k q).1
    · rw [q]; exact h4
    · rw [q]; exact K.lo1
    · rw [q]; exact K.lo2
    · rw [q]; exact K.lo3
    · exact (row_lt K.hn.ord q).2
  have d1 : Dk x w.heap.size b v S.s := ⟨h1.blk, owns_lower h1.rl hs, owns_lower h1.rn hs, owns_lower h1.rp hs, owns_lower h1.ra hs, h1.ne, Nat.le_trans hs h1.lo⟩
  have n1 : Hn x w.heap.size S.h bv ov := ⟨K.hn.mp, owns_lower K.hn.ord hs, K.hn.wf⟩
  refine ⟨fun k => Fd b v k ∨ k = jb ∨ Pf pb bw bv ov k, ⟨fun k hk => ⟨Nat.le_trans hs (lo k hk), ?_⟩, fun w' P Y ho hp hb hY => ?_⟩, lo, fun k hk q => ?_⟩
  · rcases hk with q | q | q
    · exact (h1.fd k q).2
    · rw [q]; exact Blk.lt h2
    · exact (h7 k (.inr q)).2.2
  · refine ⟨bw, bv, ov, ⟨v, d1.only ho (fun k hk => hp k (.inl hk)), Blk.only h2 ho (hp jb (.inr (.inl rfl))), h3, Nat.le_trans hs h4, hb, h6, fun k hk => ?_⟩, K.blk.only ho (hp pb (.inr (.inr (.inl rfl)))), K.tx.only ho (hp bw (.inr (.inr (.inr (.inl rfl))))), n1.only ho (hp bv (.inr (.inr (.inr (.inr (.inl rfl)))))) (fun k hk => hp k (.inr (.inr (.inr (.inr (.inr hk)))))), K.ne, Nat.le_trans hs K.lo1, Nat.le_trans hs K.lo2, Nat.le_trans hs K.lo3, fun k hk q => (hY k hk).1 (.inr (.inr q)), K.hk, K.kp, K.t16, K.tok⟩
    rcases hk with q | q
    · obtain ⟨a1, a2⟩ := hY k q
      exact ⟨fun r => a1 (.inl r), fun r => a1 (.inr (.inl r)), a2⟩
    · obtain ⟨a1, a2, a3⟩ := h7 k (.inr q)
      exact ⟨a1, a2, Nat.lt_of_lt_of_le a3 ho.size⟩
  · rcases q with q | q | q
    · exact (h7 k (.inl hk)).1 q
    · exact (h7 k (.inl hk)).2.1 q
    · exact K.xn k hk q
theorem PK.foot {w0 w : World} {b jb pb : Nat} {S : PS} {X : Nat → Prop} (K : PK w0 w b jb pb S X) : ∃ F, Ft w0 b jb pb S F w ∧ ∀ x, X x → ¬ F x := by
  obtain ⟨F, h1, _, h2⟩ := K.foot2 (Below.refl _ _)
  exact ⟨F, h1, h2⟩
theorem Ft.only {w0 w w' : World} {b jb pb : Nat} {S : PS} {F P : Nat → Prop} (h : Ft w0 b jb pb S F w) (ho : Only P w w') (hp : ∀ x, F x → ¬ P x) : Ft w0 b jb pb S F w' :=
  ⟨fun x hx => ⟨(h.1 x hx).1, Nat.lt_of_lt_of_le (h.1 x hx).2 ho.size⟩, fun w'' P2 Y ho2 hp2 hb hY => h.2 w'' (fun x => P x ∨ P2 x) Y (Only.trans (ho.mono (fun _ _ q => .inl q)) ho2 (fun _ _ q => .inr q)) (fun x hx q => q.elim (hp x hx) (hp2 x hx)) hb hY⟩
/-- Two pools that are apart. -/
def P2 (w wr : World) (b1 j1 p1 : Nat) (S1 : PS) (b2 j2 p2 : Nat) (S2 : PS) : Prop :=
  ∃ F G, Ft w b1 j1 p1 S1 F wr ∧ Ft w b2 j2 p2 S2 G wr ∧ (∀ x, F x → ¬ G x) ∧ Below w.heap.size w wr
theorem P2.make {w w1 wr : World} {b1 j1 p1 : Nat} {S1 : PS} {b2 j2 p2 : Nat} {S2 : PS} {X Y : Nat → Prop} (K1 : PK w w1 b1 j1 p1 S1 X) (K2 : PK w1 wr b2 j2 p2 S2 Y) : P2 w wr b1 j1 p1 S1 b2 j2 p2 S2 := by
  obtain ⟨F, hF, _⟩ := K1.foot
  obtain ⟨G, hG, hlo, _⟩ := K2.foot2 K1.bel
  have hb := K2.bel
  exact ⟨F, G, hF.only (Only.of_below (P := fun _ => False) hb) (fun _ _ q => q), hG, fun x hx q => by have := (hF.1 x hx).2; have := hlo x q; omega, K1.bel.trans (hb.mono K1.bel.size)⟩
theorem P2.bel {w wr : World} {b1 j1 p1 : Nat} {S1 : PS} {b2 j2 p2 : Nat} {S2 : PS} (h : P2 w wr b1 j1 p1 S1 b2 j2 p2 S2) : Below w.heap.size w wr := by
  obtain ⟨F, G, _, _, _, h⟩ := h
  exact h
theorem P2.swap {w wr : World} {b1 j1 p1 : Nat} {S1 : PS} {b2 j2 p2 : Nat} {S2 : PS} (h : P2 w wr b1 j1 p1 S1 b2 j2 p2 S2) : P2 w wr b2 j2 p2 S2 b1 j1 p1 S1 := by
  obtain ⟨F, G, h1, h2, h3, h4⟩ := h
  exact ⟨G, F, h2, h1, fun x q r => h3 x r q, h4⟩
theorem P2.below {w wr w' : World} {b1 j1 p1 : Nat} {S1 : PS} {b2 j2 p2 : Nat} {S2 : PS} (h : P2 w wr b1 j1 p1 S1 b2 j2 p2 S2) (hb : Below wr.heap.size wr w') : P2 w w' b1 j1 p1 S1 b2 j2 p2 S2 := by
  obtain ⟨F, G, h1, h2, h3, h4⟩ := h
  have ho : Only (fun _ => False) wr w' := Only.of_below hb
  exact ⟨F, G, h1.only ho (fun _ _ q => q), h2.only ho (fun _ _ q => q), h3, h4.trans (hb.mono h4.size)⟩
/-- The first one, by itself. -/
theorem P2.one {w wr : World} {b1 j1 p1 : Nat} {S1 : PS} {b2 j2 p2 : Nat} {S2 : PS} (h : P2 w wr b1 j1 p1 S1 b2 j2 p2 S2) : PK w wr b1 j1 p1 S1 (fun _ => False) := by
  obtain ⟨F, G, h1, h2, h3, h4⟩ := h
  exact h1.2 wr (fun _ => False) _ (Only.refl _ _) (fun _ _ q => q) h4 (fun x q => q.elim)
/-- A call of the first one leaves the second as it is. -/
theorem P2.call {w wr : World} {b1 j1 p1 : Nat} {S1 : PS} {b2 j2 p2 : Nat} {S2 : PS} (h : P2 w wr b1 j1 p1 S1 b2 j2 p2 S2) {f : FuncId} {args : Array Value} {R : Ending → Prop} {S1' : PS}
    (hc : ∀ X, PK w wr b1 j1 p1 S1 X → Calls Tryz.prog f args wr fun e w' => R e ∧ PK w w' b1 j1 p1 S1' X ∧ Only (fun x => ¬ X x) wr w') :
    Calls Tryz.prog f args wr fun e w' => R e ∧ P2 w w' b1 j1 p1 S1' b2 j2 p2 S2 := by
  obtain ⟨F, G, h1, h2, h3, h4⟩ := h
  refine (hc G (h1.2 wr (fun _ => False) G (Only.refl _ _) (fun _ _ q => q) h4 (fun x hx => ⟨fun q => h3 x q hx, (h2.1 x hx).2⟩))).mono ?_
  rintro e w' ⟨hR, K, hO⟩
  obtain ⟨F', g1, g2⟩ := K.foot
  exact ⟨hR, F', G, g1, h2.only hO (fun x hx q => q hx), fun x q r => g2 x r q, K.bel⟩
end Go.Proofs.YtkkndlkelpdehaaGreatDoor

namespace Go.Proofs.YtkkndlkelpdehaaGreatDoor
open Go.RowKit Go.Maps Go.Sort Go.Shelf
theorem nodup_sub : ∀ (a b : List Int), a.Nodup → (∀ x ∈ a, x ∈ b) → a.length ≤ b.length
  | [], _, _, _ => Nat.zero_le _
  | x :: r, b, h, hs => by
    obtain ⟨h1, h2⟩ := List.nodup_cons.1 h
    have hx := hs x (by simp)
    have ih := nodup_sub r (b.erase x) h2 (fun y hy => by
      have hne : y ≠ x := fun e => h1 (by rw [← e]; exact hy)
      exact (List.mem_erase_of_ne hne).2 (hs y (by simp [hy])))
    rw [List.length_erase_of_mem hx] at ih
    have := List.length_pos_of_mem hx
    simp only [List.length_cons]
    omega
/-- m places, one behind the other, of 109. -/
def rotL (o m : Nat) : List Int := (List.range m).map fun s => 19 + (((o + s) % 109 : Nat) : Int)
theorem rotL_nodup (o m : Nat) (hm : m ≤ 109) : (rotL o m).Nodup := by
  unfold rotL
  refine List.pairwise_map.2 ((List.nodup_range (n := m)).imp_of_mem (fun {a b} ha hb h => ?_))
  have h1 := List.mem_range.1 ha
  have h2 := List.mem_range.1 hb
  omega
theorem rotL_len (o m : Nat) : (rotL o m).length = m := by simp [rotL]
structure FuS (S : PS) (Mn : List ByteArray) (ks : List Int) : Prop where
  seen : Seen S L0 A0 0 (zF 128) Mn
  op : S.op = true
  tx : ∀ x : Int, (txAt S.tx x).isSome = true ↔ x ∈ ks
  len : S.tx.length = ks.length
  rng : ∀ x ∈ ks, 19 ≤ x ∧ x < 128
  zer : ∀ k : Nat, 19 ≤ k → k < 128 → ((k : Nat) : Int) ∉ ks → Mn.getD k ByteArray.empty = zero256
theorem FuS.write {S : PS} {Mn : List ByteArray} {ks : List Int} (h : FuS S Mn ks) (hs : Srt S.tx) (k : Nat) (h1 : 19 ≤ k) (h2 : k < 128) (t : ByteArray) (ht : t.size = 256) (hr : (k : Int) ∈ ks ∨ ks.length < 16) :
    refP S (k : Int) t = 0 ∧ FuS (writeP S (k : Int) t) (Mn.set k t) (if (k : Int) ∈ ks then ks else ks ++ [(k : Int)]) := by
  have hroom : roomB S (k : Int) = true := by
    unfold roomB
    rw [Bool.or_eq_true]
    rcases hr with q | q
    · exact .inl ((h.tx _).2 q)
    · exact .inr (decide_eq_true (by have := h.len; omega))
  obtain ⟨a1, a2, a3, a4⟩ := h.seen.write hs h.op k h1 h2 t ht hroom
  have hln := h.seen.ln
  have hat : ∀ x : Int, (txAt (txPut (k : Int) t S.tx) x).isSome = true ↔ x = (k : Int) ∨ x ∈ ks := fun x => by
    rw [at_put hs]
    by_cases e : x = (k : Int)
    · simp [e]
    · rw [if_neg e, h.tx x]; simp [e]
  have hzer : ∀ (ks' : List Int), (∀ x, x ∈ ks' ↔ x = (k : Int) ∨ x ∈ ks) → ∀ i : Nat, 19 ≤ i → i < 128 → ((i : Nat) : Int) ∉ ks' → (Mn.set k t).getD i ByteArray.empty = zero256 := fun ks' hk i i1 i2 hi => by
    have : k ≠ i := fun e => hi ((hk _).2 (.inl (by omega)))
    rw [getD_set_other _ k i _ this]
    exact h.zer i i1 i2 (fun q => hi ((hk _).2 (.inr q)))
  refine ⟨a1, ?_⟩
  by_cases hm : (k : Int) ∈ ks
  · rw [if_pos hm]
    refine ⟨a2, a3, fun x => ?_, ?_, h.rng, hzer ks (fun x => ⟨.inr, fun q => q.elim (fun e => e ▸ hm) id⟩)⟩
    · rw [a4, hat x]
      exact ⟨fun q => q.elim (fun e => e ▸ hm) id, .inr⟩
    · rw [a4, put_len hs, if_pos ((h.tx _).2 hm), h.len]
  · rw [if_neg hm]
    refine ⟨a2, a3, fun x => ?_, ?_, fun x hx => ?_, hzer _ (fun x => by simp [or_comm])⟩
    · rw [a4, hat x]; simp [or_comm]
    · rw [a4, put_len hs, if_neg (fun q => hm ((h.tx _).1 q)), h.len]; simp
    · rcases List.mem_append.1 hx with q | q
      · exact h.rng x q
      · simp at q; subst q; exact ⟨by omega, by omega⟩
def FuI (w : World) (b jb pb : Nat) (l : List Int) (ks : List Int) (k : Nat) (v : Value) (wr : World) : Prop :=
  ∃ S Mn, PK w wr b jb pb S (fun x => v.ownBlock = some x) ∧ FuS S Mn ks ∧ wr.ownsRow w.heap.size 3 1 v ks.length (ks.map encZ) ∧ ks.length ≤ 16 ∧ (∀ j : Nat, l.length ≤ j → j < k → 19 + ((j % 109 : Nat) : Int) ∈ ks)
theorem fu_bound {l ks : List Int} {k : Nat} (hc : ∀ j : Nat, l.length ≤ j → j < k → 19 + ((j % 109 : Nat) : Int) ∈ ks) (hk : ks.length < 16) : k < l.length + 16 := by
  apply Classical.byContradiction
  intro q
  have h := nodup_sub (rotL l.length 16) ks (rotL_nodup _ _ (by decide)) (fun x hx => by
    obtain ⟨s, hs, rfl⟩ := List.mem_map.1 hx
    have := List.mem_range.1 hs
    exact hc (l.length + s) (by omega) (by omega))
  rw [rotL_len] at h
  omega
theorem PK.srt {w0 w : World} {b jb pb : Nat} {S : PS} {X : Nat → Prop} (K : PK w0 w b jb pb S X) : Srt S.tx := by
  obtain ⟨bw, bv, ov, K⟩ := K
  exact K.tx.2
theorem any_take (ks : List Int) (z : Int) (q : Nat) (hq : q < ks.length) : ((ks.take (q + 1)).any fun x => x == z) = ((ks.take q).any (fun x => x == z) || (ks.getD q 0 == z)) := by
  rw [List.take_succ_eq_append_getElem hq, List.any_append]
  simp [List.getD_eq_getElem?_getD, hq]
theorem any_mem (ks : List Int) (z : Int) : (ks.any fun x => x == z) = decide (z ∈ ks) := by
  rw [Bool.eq_iff_iff]
  simp only [List.any_eq_true, beq_iff_eq, decide_eq_true_eq]
  exact ⟨fun ⟨x, h, e⟩ => e ▸ h, fun h => ⟨z, h, rfl⟩⟩
theorem row_cell {w : World} {base : Nat} {p : Option Addr} {n cap : Nat} {ks : List Int} (h : w.ownsRow base 3 1 (.slice p n cap) ks.length (ks.map encZ)) (q : Nat) (hq : q < ks.length) : ∃ g, p = some ⟨g, 0, none⟩ ∧ n = ks.length ∧ w.cell? ⟨g, q, none⟩ = some (.int .i64 (ks.getD q 0)) := by
  rcases h.2 with ⟨_, e⟩ | ⟨g, c, cur, e, _, hg, _, _, _, h4⟩
  · omega
  · injection e with e1 e2 e3
    refine ⟨g, e1, e2, ?_⟩
    rw [(show Blk w g cur 3 from hg).cell, ← Array.getElem?_toList]
    have e1 : (cur.toList.take (ks.length * 1))[q]? = (ks.map encZ)[q]? := by rw [h4]
    rw [List.getElem?_take_of_lt (by omega)] at e1
    rw [e1]
    simp [List.getD_eq_getElem?_getD, hq]
theorem rep_b (c : UInt8) : bytesB ⟨#[c]⟩ = rep1 (c.toNat : Int) := by
  rw [bytesB, if_pos (show (⟨#[c]⟩ : ByteArray).size = 1 from rfl)]
  rfl
end Go.Proofs.YtkkndlkelpdehaaGreatDoor
