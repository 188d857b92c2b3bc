import Derived.Test.YtjlgbafcpoakmaaGreatDoorMf06
import Derived.Test.YtjlgbafcpoakmaaGreatDoorMf03
import Derived.Test.YtjlgbafcpoakmaaGreatDoorMf05
import Derived.Laws.BytesArg
import Derived.Laws.Tables
import Derived.Deep.MidRow
import Derived.BigQuiet
import Derived.WalkMore
namespace Go.Proofs.YtjlgbafcpoakmaaGreatDoor
open Go.RowKit
/-- What a block is mapped to: digest and wrapped key. -/
abbrev Ent := Option (ByteArray × ByteArray)
def vtD (e : Ent) : ByteArray := match e with | some p => p.1 | none => ⟨#[]⟩
def vtW (e : Ent) : ByteArray := match e with | some p => p.2 | none => ⟨#[]⟩
def EOk (e : Ent) : Prop := ∀ d t, e = some (d, t) → d.size = 32 ∧ t.size = 48
theorem EOk.none : EOk none := fun _ _ h => by cases h
theorem EOk.mk {d t : ByteArray} (h1 : d.size = 32) (h2 : t.size = 48) : EOk (some (d, t)) := fun a c h => by cases h; exact ⟨h1, h2⟩
def ups {α : Type} (f : Nat → α) (p : Nat) (v : α) : Nat → α := fun i => if i = p then v else f i
theorem ups_same {α : Type} (f : Nat → α) (p : Nat) (v : α) : ups f p v p = v := by unfold ups; rw [if_pos rfl]
theorem ups_other {α : Type} (f : Nat → α) {p i : Nat} (v : α) (h : i ≠ p) : ups f p v i = f i := by unfold ups; rw [if_neg h]
def mk1 (e : Ent) : Nat := if e.isSome then 1 else 0
theorem mk1_le (e : Ent) : mk1 e ≤ 1 := by unfold mk1; split <;> omega
/-- The marks of the blocks below k. -/
def mks (f : Nat → Ent) : Nat → Nat
  | 0 => 0
  | k + 1 => mks f k + mk1 (f k) * 2 ^ k
theorem mks_lt (f : Nat → Ent) : ∀ k, mks f k < 2 ^ k
  | 0 => by simp [mks]
  | k + 1 => by
    have := mks_lt f k
    have h1 := mk1_le (f k)
    rw [mks, Nat.pow_succ]
    rcases Nat.lt_or_ge (mk1 (f k)) 1 with q | q
    · rw [show mk1 (f k) = 0 by omega]; omega
    · rw [show mk1 (f k) = 1 by omega]; omega
theorem mks3 (f : Nat → Ent) : mks f 3 = mk1 (f 0) + mk1 (f 1) * 2 + mk1 (f 2) * 4 := by simp [mks]
def a32 (e : Ent) : List Int := match e with | some p => nums p.1 | none => List.replicate 32 0
def a48 (e : Ent) : List Int := match e with | some p => nums p.2 | none => List.replicate 48 0
def e80 (e : Ent) : List Int := a32 e ++ a48 e
theorem a32_len {e : Ent} (h : EOk e) : (a32 e).length = 32 := by
  cases e with
  | none => simp [a32]
  | some p => rw [a32, nums_len]; exact (h p.1 p.2 rfl).1
theorem a48_len {e : Ent} (h : EOk e) : (a48 e).length = 48 := by
  cases e with
  | none => simp [a48]
  | some p => rw [a48, nums_len]; exact (h p.1 p.2 rfl).2
theorem rep_bytes (n : Nat) : Bytes (List.replicate n (0 : Int)) := fun j => by
  rw [List.getD_eq_getElem?_getD, List.getElem?_replicate]
  split <;> simp
theorem a32_bytes (e : Ent) : Bytes (a32 e) := by
  cases e with
  | none => exact rep_bytes 32
  | some p => exact nums_bytes p.1
theorem a48_bytes (e : Ent) : Bytes (a48 e) := by
  cases e with
  | none => exact rep_bytes 48
  | some p => exact nums_bytes p.2
theorem bytes_app {a b : List Int} (ha : Bytes a) (hb : Bytes b) : Bytes (a ++ b) := by
  intro j
  rw [List.getD_eq_getElem?_getD, List.getElem?_append]
  split
  · have := ha j; rwa [List.getD_eq_getElem?_getD] at this
  · have := hb (j - a.length); rwa [List.getD_eq_getElem?_getD] at this
theorem bytes_nil : Bytes [] := fun j => by simp
theorem e80_len {e : Ent} (h : EOk e) : (e80 e).length = 80 := by rw [e80, List.length_append, a32_len h, a48_len h]
theorem e80_bytes (e : Ent) : Bytes (e80 e) := bytes_app (a32_bytes e) (a48_bytes e)
/-- The entries' bytes below k; those from k on (of three). -/
def e3 (f : Nat → Ent) : Nat → List Int
  | 0 => []
  | k + 1 => e3 f k ++ e80 (f k)
theorem e3_len (f : Nat → Ent) (h : ∀ j, j < 3 → EOk (f j)) : ∀ k, k ≤ 3 → (e3 f k).length = 80 * k
  | 0, _ => by simp [e3]
  | k + 1, hk => by rw [e3, List.length_append, e3_len f h k (by omega), e80_len (h k (by omega))]; omega
def t3 (f : Nat → Ent) (k : Nat) : List Int := if k = 0 then e80 (f 0) ++ (e80 (f 1) ++ e80 (f 2)) else if k = 1 then e80 (f 1) ++ e80 (f 2) else if k = 2 then e80 (f 2) else []
theorem t3_bytes (f : Nat → Ent) (k : Nat) : Bytes (t3 f k) := by
  unfold t3
  split
  · exact bytes_app (e80_bytes _) (bytes_app (e80_bytes _) (e80_bytes _))
  · split
    · exact bytes_app (e80_bytes _) (e80_bytes _)
    · split
      · exact e80_bytes _
      · exact bytes_nil
theorem t3_step (f : Nat → Ent) (k : Nat) (hk : k < 3) : t3 f k = a32 (f k) ++ (a48 (f k) ++ t3 f (k + 1)) := by
  have : k = 0 ∨ k = 1 ∨ k = 2 := by omega
  rcases this with rfl | rfl | rfl <;> simp [t3, e80]
theorem t3_len (f : Nat → Ent) (h : ∀ j, j < 3 → EOk (f j)) (k : Nat) (hk : k ≤ 3) : (t3 f k).length = 80 * (3 - k) := by
  have h0 := e80_len (h 0 (by omega))
  have h1 := e80_len (h 1 (by omega))
  have h2 := e80_len (h 2 (by omega))
  have : k = 0 ∨ k = 1 ∨ k = 2 ∨ k = 3 := by omega
  rcases this with rfl | rfl | rfl | rfl <;> simp [t3, h0, h1, h2]
/-- A leaf's body. -/
def lfL (f : Nat → Ent) : List Int := numB (mks f 3 : Int) 1 ++ e3 f 3
theorem e3_t3 (f : Nat → Ent) : e3 f 3 = t3 f 0 := by simp [e3, t3]
def lfB (f : Nat → Ent) : ByteArray := strOfNums (lfL f)
theorem lfB_size (f : Nat → Ent) (h : ∀ j, j < 3 → EOk (f j)) : (lfB f).size = 241 := by
  rw [lfB, strOfNums_size, lfL, List.length_append, numB_len, e3_len f h 3 (by omega)]
/-- A root page's body. -/
def lvL (lf : Nat → Nat) : List Int := (List.range 20).map fun l => (lf l : Int)
theorem lvL_len (lf : Nat → Nat) : (lvL lf).length = 20 := by simp [lvL]
theorem lvL_at (lf : Nat → Nat) (l : Nat) (h : l < 20) : (lvL lf).getD l 0 = (lf l : Int) := by simp [lvL, h]
theorem lvL_get (lf : Nat → Nat) (l : Nat) (h : l < 20) : (lvL lf)[l]? = some (lf l : Int) := by simp [lvL, h]
theorem outN_bytes (k : Nat) (L : List Int) : Bytes (outN k L) := by
  induction L with
  | nil => exact bytes_nil
  | cons x L ih => exact bytes_app (numB_bytes x k) ih
def rtB (lf : Nat → Nat) : ByteArray := strOfNums (outN 2 (lvL lf))
theorem rtB_size (lf : Nat → Nat) : (rtB lf).size = 40 := by rw [rtB, strOfNums_size, outN_len, lvL_len]
/-- What is left of it behind l leaves. -/
def rtT (lf : Nat → Nat) (l : Nat) : List Int := outN 2 ((lvL lf).drop l)
theorem rtT_bytes (lf : Nat → Nat) (l : Nat) : Bytes (rtT lf l) := outN_bytes _ _
theorem rtT_step (lf : Nat → Nat) (l : Nat) (h : l < 20) : rtT lf l = numB (lf l : Int) 2 ++ rtT lf (l + 1) := by
  unfold rtT
  rw [List.drop_eq_getElem_cons (by rw [lvL_len]; exact h)]
  have e : (lvL lf)[l]'(by rw [lvL_len]; exact h) = (lf l : Int) := by
    have := lvL_get lf l h
    rw [List.getElem?_eq_getElem (by rw [lvL_len]; exact h)] at this
    exact Option.some.inj this
  rw [e]
  rfl
theorem rtT_len (lf : Nat → Nat) (l : Nat) (_h : l ≤ 20) : (rtT lf l).length = 2 * (20 - l) := by rw [rtT, outN_len, List.length_drop, lvL_len]
def rtP (num : Nat) (lf : Nat → Nat) : ByteArray := makeB 6 (num : Int) (rtB lf)
def lfP (num l : Nat) (f : Nat → Ent) : ByteArray := makeB 7 ((32 * num + l : Nat) : Int) (lfB f)
theorem fits4n (c : Nat) (h : c < 4294967296) : fitsP (c : Int) 4 := by
  refine ⟨by omega, Int.ediv_eq_zero_of_lt (by omega) ?_⟩
  have e : (2 : Int) ^ (8 * 4) = 4294967296 := by decide
  rw [e]
  omega
theorem fits2n (c : Nat) (h : c < 65536) : fitsP (c : Int) 2 := by
  refine ⟨by omega, Int.ediv_eq_zero_of_lt (by omega) ?_⟩
  have e : (2 : Int) ^ (8 * 2) = 65536 := by decide
  rw [e]
  omega
theorem fits1n (c : Nat) (h : c < 256) : fitsP (c : Int) 1 := by
  refine ⟨by omega, Int.ediv_eq_zero_of_lt (by omega) ?_⟩
  have e : (2 : Int) ^ (8 * 1) = 256 := by decide
  rw [e]
  omega
theorem rtP_err (num : Nat) (lf : Nat → Nat) (h : num ≤ 1000000) : errM 6 (num : Int) (rtB lf).size = 0 := by
  have h1 : fitsP 6 1 := by decide
  have h2 := fits4n num (by omega)
  rw [errM, if_neg (by simp [h1, h2]), if_neg (by rw [rtB_size]; omega)]
theorem lfP_err (num l : Nat) (f : Nat → Ent) (h : num ≤ 1000000) (hl : l < 20) (hf : ∀ j, j < 3 → EOk (f j)) : errM 7 ((32 * num + l : Nat) : Int) (lfB f).size = 0 := by
  have h1 : fitsP 7 1 := by decide
  have h2 := fits4n (32 * num + l) (by omega)
  rw [errM, if_neg (fun q => q.elim (fun a => a h1) (fun a => a h2)), if_neg (by rw [lfB_size f hf]; omega)]
theorem rtP_parse (num : Nat) (lf : Nat → Nat) (h : num ≤ 1000000) : prOk (rtP num lf) ∧ pkd (rtP num lf) = 6 ∧ pnm (rtP num lf) = (num : Int) ∧ pbd (rtP num lf) = rtB lf := make_parse 6 (num : Int) (rtB lf) (rtP_err num lf h)
theorem lfP_parse (num l : Nat) (f : Nat → Ent) (h : num ≤ 1000000) (hl : l < 20) (hf : ∀ j, j < 3 → EOk (f j)) : prOk (lfP num l f) ∧ pkd (lfP num l f) = 7 ∧ pnm (lfP num l f) = ((32 * num + l : Nat) : Int) ∧ pbd (lfP num l f) = lfB f := make_parse 7 _ (lfB f) (lfP_err num l f h hl hf)
/-- A volume. -/
structure Vol where
  r : Nat
  num : Nat
  lf : Nat → Nat
  e : Nat → Ent
/-- The blocks of its leaf l. -/
def Vol.f (v : Vol) (l : Nat) : Nat → Ent := fun j => v.e (3 * l + j)
/-- The volume v, the k-th one, stands in the sectors M, its places are O's. -/
structure VOk (M : List ByteArray) (n : Nat) (O : Nat → Option (Nat × Nat)) (k : Nat) (v : Vol) : Prop where
  num : v.num ≤ 1000000
  rn : v.r < n
  ro : O v.r = some (k, 0)
  rp : M.getD (40 + v.r) ByteArray.empty = rtP v.num v.lf
  ln : ∀ l, l < 20 → v.lf l ≤ n
  lo : ∀ l, l < 20 → v.lf l ≠ 0 → O (v.lf l - 1) = some (k, l + 1)
  lp : ∀ l, l < 20 → v.lf l ≠ 0 → M.getD (40 + (v.lf l - 1)) ByteArray.empty = lfP v.num l (v.f l)
  em : ∀ l, l < 20 → (v.lf l = 0 ↔ ∀ j, j < 3 → v.e (3 * l + j) = none)
  eo : ∀ i, i < 60 → EOk (v.e i)
/-- Others wrote elsewhere. -/
theorem VOk.over {M N : List ByteArray} {n : Nat} {O O' : Nat → Option (Nat × Nat)} {k : Nat} {v : Vol} (h : VOk M n O k v) (e : ∀ i a, i < n → O i = some (k, a) → N.getD (40 + i) ByteArray.empty = M.getD (40 + i) ByteArray.empty ∧ O' i = O i) : VOk N n O' k v where
  num := h.num
  rn := h.rn
  ro := by rw [(e v.r 0 h.rn h.ro).2]; exact h.ro
  rp := by rw [(e v.r 0 h.rn h.ro).1]; exact h.rp
  ln := h.ln
  lo := fun l hl hn => by
    have := h.ln l hl
    rw [(e (v.lf l - 1) (l + 1) (by omega) (h.lo l hl hn)).2]
    exact h.lo l hl hn
  lp := fun l hl hn => by
    have := h.ln l hl
    rw [(e (v.lf l - 1) (l + 1) (by omega) (h.lo l hl hn)).1]
    exact h.lp l hl hn
  em := h.em
  eo := h.eo
/-- The m volumes V stand in the sectors M; just their pages are taken. -/
structure VSo (M : List ByteArray) (n m : Nat) (T : Nat → Bool) (V : Nat → Vol) (O : Nat → Option (Nat × Nat)) : Prop where
  ok : ∀ k, k < m → VOk M n O k (V k)
  tk : ∀ i, i < n → T i = (O i).isSome
  or : ∀ i k, i < n → O i = some (k, 0) → k < m ∧ (V k).r = i
  ol : ∀ i k l, i < n → O i = some (k, l + 1) → k < m ∧ l < 20 ∧ (V k).lf l = i + 1
def VS (M : List ByteArray) (n m : Nat) (T : Nat → Bool) (V : Nat → Vol) : Prop := ∃ O, VSo M n m T V O
theorem VS.root {M : List ByteArray} {n m : Nat} {T : Nat → Bool} {V : Nat → Vol} (h : VS M n m T V) (k : Nat) (hk : k < m) : (V k).num ≤ 1000000 ∧ (V k).r < n ∧ T (V k).r = true ∧ M.getD (40 + (V k).r) ByteArray.empty = rtP (V k).num (V k).lf ∧ (∀ l, l < 20 → (V k).lf l ≤ n) := by
  obtain ⟨O, h⟩ := h
  have q := h.ok k hk
  exact ⟨q.num, q.rn, by rw [h.tk _ q.rn, q.ro]; rfl, q.rp, q.ln⟩
theorem VS.leaf {M : List ByteArray} {n m : Nat} {T : Nat → Bool} {V : Nat → Vol} (h : VS M n m T V) (k : Nat) (hk : k < m) (l : Nat) (hl : l < 20) (hn : (V k).lf l ≠ 0) : (V k).lf l - 1 < n ∧ T ((V k).lf l - 1) = true ∧ (V k).lf l - 1 ≠ (V k).r ∧ M.getD (40 + ((V k).lf l - 1)) ByteArray.empty = lfP (V k).num l ((V k).f l) := by
  obtain ⟨O, h⟩ := h
  have q := h.ok k hk
  have hb := q.ln l hl
  refine ⟨by omega, by rw [h.tk _ (by omega), q.lo l hl hn]; rfl, fun e => ?_, q.lp l hl hn⟩
  have h1 := q.lo l hl hn
  rw [e, q.ro] at h1
  cases h1
theorem VS.em {M : List ByteArray} {n m : Nat} {T : Nat → Bool} {V : Nat → Vol} (h : VS M n m T V) (k : Nat) (hk : k < m) (l : Nat) (hl : l < 20) : (V k).lf l = 0 ↔ ∀ j, j < 3 → (V k).e (3 * l + j) = none := by
  obtain ⟨O, h⟩ := h
  exact (h.ok k hk).em l hl
theorem VS.eo {M : List ByteArray} {n m : Nat} {T : Nat → Bool} {V : Nat → Vol} (h : VS M n m T V) (k : Nat) (hk : k < m) (i : Nat) (hi : i < 60) : EOk ((V k).e i) := by
  obtain ⟨O, h⟩ := h
  exact (h.ok k hk).eo i hi
theorem VS.fo {M : List ByteArray} {n m : Nat} {T : Nat → Bool} {V : Nat → Vol} (h : VS M n m T V) (k : Nat) (hk : k < m) (l : Nat) (hl : l < 20) : ∀ j, j < 3 → EOk ((V k).f l j) := fun j hj => h.eo k hk (3 * l + j) (by omega)
theorem div3 (b : Nat) : 3 * (b / 3) + b % 3 = b := by omega
/-- A block of a leaf that is there (and stays) gets another entry. -/
theorem VS.put {M N : List ByteArray} {n m : Nat} {T : Nat → Bool} {V : Nat → Vol} (h : VS M n m T V) (k : Nat) (hk : k < m) (b : Nat) (hb : b < 60) (e : Ent) (he : EOk e) (hn : (V k).lf (b / 3) ≠ 0) (hs : ∃ j, j < 3 ∧ ups (V k).e b e (3 * (b / 3) + j) ≠ none)
    (hp : N.getD (40 + ((V k).lf (b / 3) - 1)) ByteArray.empty = lfP (V k).num (b / 3) (ups ((V k).f (b / 3)) (b % 3) e)) (hr : ∀ i, i < n → i ≠ (V k).lf (b / 3) - 1 → N.getD (40 + i) ByteArray.empty = M.getD (40 + i) ByteArray.empty) : VS N n m T (ups V k { V k with e := ups (V k).e b e }) := by
  obtain ⟨O, h⟩ := h
  have q := h.ok k hk
  have hl : b / 3 < 20 := by omega
  have hlo := q.lo _ hl hn
  have hln := q.ln _ hl
  refine ⟨O, fun j hj => ?_, h.tk, fun i j hi ho => ?_, fun i j l hi ho => ?_⟩
  · by_cases ej : j = k
    · subst ej
      rw [ups_same]
      have hne : ∀ i a, i < n → O i = some (j, a) → a ≠ b / 3 + 1 → N.getD (40 + i) ByteArray.empty = M.getD (40 + i) ByteArray.empty := fun i a hi ho ha => hr i hi (fun e => ha (by rw [e, hlo] at ho; cases ho; rfl))
      refine ⟨q.num, q.rn, q.ro, ?_, q.ln, q.lo, fun l hl' hn' => ?_, fun l hl' => ?_, fun i hi => ?_⟩
      · show N.getD (40 + (V j).r) ByteArray.empty = rtP (V j).num (V j).lf
        rw [hne _ 0 q.rn q.ro (by omega)]
        exact q.rp
      · show N.getD (40 + ((V j).lf l - 1)) ByteArray.empty = lfP (V j).num l (Vol.f { V j with e := ups (V j).e b e } l)
        have hb' := q.ln l hl'
        by_cases el : l = b / 3
        · subst el
          rw [hp]
          congr 1
          funext i
          show _ = ups (V j).e b e (3 * (b / 3) + i)
          by_cases ei : i = b % 3
          · subst ei
            rw [ups_same, div3, ups_same]
          · rw [ups_other _ _ ei, ups_other _ _ (by omega)]
            rfl
        · rw [hne _ (l + 1) (by have : (V j).lf l ≠ 0 := hn'; omega) (q.lo l hl' hn') (by omega), q.lp l hl' hn']
          by_cases e3 : ∀ i, i < 3 → 3 * l + i ≠ b
          · have : ∀ i, i < 3 → (V j).f l i = Vol.f { V j with e := ups (V j).e b e } l i := fun i hi => by
              show _ = ups (V j).e b e (3 * l + i)
              rw [ups_other _ _ (e3 i hi)]
              rfl
            unfold lfP lfB lfL
            rw [mks3, mks3, e3_t3, e3_t3]
            simp only [t3, if_true, this 0 (by omega), this 1 (by omega), this 2 (by omega)]
          · exact absurd (fun i hi e => el (by omega)) e3
      · show (V j).lf l = 0 ↔ ∀ i, i < 3 → ups (V j).e b e (3 * l + i) = none
        by_cases el : l = b / 3
        · subst el
          refine ⟨fun q' => absurd q' hn, fun q' => ?_⟩
          obtain ⟨i, hi, h1⟩ := hs
          exact absurd (q' i hi) h1
        · rw [q.em l hl']
          refine ⟨fun q' i hi => by rw [ups_other _ _ (by omega)]; exact q' i hi, fun q' i hi => ?_⟩
          have := q' i hi
          rwa [ups_other _ _ (by omega)] at this
      · show EOk (ups (V j).e b e i)
        by_cases ei : i = b
        · subst ei; rw [ups_same]; exact he
        · rw [ups_other _ _ ei]; exact q.eo i hi
    · rw [ups_other _ _ ej]
      exact (h.ok j hj).over (fun i a hi ho => ⟨hr i hi (fun e => by rw [e, hlo] at ho; cases ho; exact ej rfl), rfl⟩)
  · obtain ⟨q1, q2⟩ := h.or i j hi ho
    refine ⟨q1, ?_⟩
    by_cases ej : j = k
    · subst ej; rw [ups_same]; exact q2
    · rw [ups_other _ _ ej]; exact q2
  · obtain ⟨q1, q2, q3⟩ := h.ol i j l hi ho
    refine ⟨q1, q2, ?_⟩
    by_cases ej : j = k
    · subst ej; rw [ups_same]; exact q3
    · rw [ups_other _ _ ej]; exact q3
/-- A new leaf with one block. -/
theorem VS.grow {M N : List ByteArray} {n m : Nat} {T : Nat → Bool} {V : Nat → Vol} (h : VS M n m T V) (k : Nat) (hk : k < m) (b : Nat) (hb : b < 60) (d t : ByteArray) (he : EOk (some (d, t))) (hn : (V k).lf (b / 3) = 0) (p : Nat) (hp : p < n) (hT : T p = false)
    (hl1 : N.getD (40 + p) ByteArray.empty = lfP (V k).num (b / 3) (ups ((V k).f (b / 3)) (b % 3) (some (d, t)))) (hr1 : N.getD (40 + (V k).r) ByteArray.empty = rtP (V k).num (ups (V k).lf (b / 3) (p + 1))) (hr : ∀ i, i < n → i ≠ p → i ≠ (V k).r → N.getD (40 + i) ByteArray.empty = M.getD (40 + i) ByteArray.empty) : VS N n m (flp T p) (ups V k { V k with lf := ups (V k).lf (b / 3) (p + 1), e := ups (V k).e b (some (d, t)) }) := by
  obtain ⟨O, h⟩ := h
  have q := h.ok k hk
  have hl : b / 3 < 20 := by omega
  have hpn : O p = none := by
    have := h.tk p hp
    rw [hT] at this
    cases ho : O p with
    | none => rfl
    | some x => rw [ho] at this; cases this
  have hpr : p ≠ (V k).r := fun e => by rw [e, q.ro] at hpn; cases hpn
  have hno : ∀ i a, O i = some a → i ≠ p := fun i a ho e => by rw [e, hpn] at ho; cases ho
  refine ⟨ups O p (some (k, b / 3 + 1)), fun j hj => ?_, fun i hi => ?_, fun i j hi ho => ?_, fun i j l hi ho => ?_⟩
  · by_cases ej : j = k
    · subst ej
      rw [ups_same]
      have hne : ∀ i a, i < n → O i = some (j, a) → a ≠ 0 → N.getD (40 + i) ByteArray.empty = M.getD (40 + i) ByteArray.empty := fun i a hi ho ha => hr i hi (hno i _ ho) (fun e => ha (by rw [e, q.ro] at ho; cases ho; rfl))
      refine ⟨q.num, q.rn, ?_, hr1, fun l hl' => ?_, fun l hl' hn' => ?_, fun l hl' hn' => ?_, fun l hl' => ?_, fun i hi => ?_⟩
      · show ups O p _ (V j).r = _
        rw [ups_other _ _ (Ne.symm hpr)]
        exact q.ro
      · show ups (V j).lf (b / 3) (p + 1) l ≤ n
        by_cases el : l = b / 3
        · subst el; rw [ups_same]; omega
        · rw [ups_other _ _ el]; exact q.ln l hl'
      · replace hn' : ups (V j).lf (b / 3) (p + 1) l ≠ 0 := hn'
        show ups O p _ (ups (V j).lf (b / 3) (p + 1) l - 1) = _
        by_cases el : l = b / 3
        · subst el; rw [ups_same, Nat.add_sub_cancel, ups_same]
        · rw [ups_other _ _ el] at hn' ⊢
          rw [ups_other _ _ (hno _ _ (q.lo l hl' hn'))]
          exact q.lo l hl' hn'
      · replace hn' : ups (V j).lf (b / 3) (p + 1) l ≠ 0 := hn'
        show N.getD (40 + (ups (V j).lf (b / 3) (p + 1) l - 1)) ByteArray.empty = lfP (V j).num l (fun i => ups (V j).e b (some (d, t)) (3 * l + i))
        by_cases el : l = b / 3
        · subst el
          rw [ups_same, Nat.add_sub_cancel, hl1]
          congr 1
          funext i
          by_cases ei : i = b % 3
          · subst ei
            rw [ups_same, div3, ups_same]
          · rw [ups_other _ _ ei, ups_other _ _ (by omega)]
            rfl
        · rw [ups_other _ _ el] at hn' ⊢
          have hb' := q.ln l hl'
          rw [hne _ (l + 1) (by omega) (q.lo l hl' hn') (by omega), q.lp l hl' hn']
          have : ∀ i, i < 3 → (V j).f l i = ups (V j).e b (some (d, t)) (3 * l + i) := fun i hi => by
            rw [ups_other _ _ (by omega)]
            rfl
          unfold lfP lfB lfL
          rw [mks3, mks3, e3_t3, e3_t3]
          simp only [t3, if_true, this 0 (by omega), this 1 (by omega), this 2 (by omega)]
      · show ups (V j).lf (b / 3) (p + 1) l = 0 ↔ ∀ i, i < 3 → ups (V j).e b (some (d, t)) (3 * l + i) = none
        by_cases el : l = b / 3
        · subst el
          rw [ups_same]
          refine ⟨fun q' => by omega, fun q' => ?_⟩
          have := q' (b % 3) (Nat.mod_lt _ (by decide))
          rw [div3, ups_same] at this
          cases this
        · rw [ups_other _ _ el, q.em l hl']
          refine ⟨fun q' i hi => by rw [ups_other _ _ (by omega)]; exact q' i hi, fun q' i hi => ?_⟩
          have := q' i hi
          rwa [ups_other _ _ (by omega)] at this
      · show EOk (ups (V j).e b (some (d, t)) i)
        by_cases ei : i = b
        · subst ei; rw [ups_same]; exact he
        · rw [ups_other _ _ ei]; exact q.eo i hi
    · rw [ups_other _ _ ej]
      exact (h.ok j hj).over (fun i a hi ho => ⟨hr i hi (hno i _ ho) (fun e => by rw [e, q.ro] at ho; cases ho; exact ej rfl), by rw [ups_other _ _ (hno i _ ho)]⟩)
  · by_cases ei : i = p
    · subst ei; rw [flip_same, hT, ups_same]; rfl
    · rw [flip_other _ ei, ups_other _ _ ei]; exact h.tk i hi
  · by_cases ei : i = p
    · subst ei; rw [ups_same] at ho; cases ho
    · rw [ups_other _ _ ei] at ho
      obtain ⟨q1, q2⟩ := h.or i j hi ho
      refine ⟨q1, ?_⟩
      by_cases ej : j = k
      · subst ej; rw [ups_same]; exact q2
      · rw [ups_other _ _ ej]; exact q2
  · by_cases ei : i = p
    · subst ei
      rw [ups_same] at ho
      cases ho
      refine ⟨hk, hl, ?_⟩
      rw [ups_same]
      exact ups_same _ _ _
    · rw [ups_other _ _ ei] at ho
      obtain ⟨q1, q2, q3⟩ := h.ol i j l hi ho
      refine ⟨q1, q2, ?_⟩
      by_cases ej : j = k
      · subst ej
        rw [ups_same]
        show ups (V j).lf (b / 3) (p + 1) l = i + 1
        rw [ups_other _ _ (fun e => by rw [e, hn] at q3; omega)]
        exact q3
      · rw [ups_other _ _ ej]; exact q3
/-- A leaf that goes with its last block. -/
theorem VS.shrink {M N : List ByteArray} {n m : Nat} {T : Nat → Bool} {V : Nat → Vol} (h : VS M n m T V) (k : Nat) (hk : k < m) (b : Nat) (hb : b < 60) (p : Nat) (hn : (V k).lf (b / 3) = p + 1) (hs : ∀ j, j < 3 → ups (V k).e b none (3 * (b / 3) + j) = none)
    (hr1 : N.getD (40 + (V k).r) ByteArray.empty = rtP (V k).num (ups (V k).lf (b / 3) 0)) (hr : ∀ i, i < n → i ≠ (V k).r → N.getD (40 + i) ByteArray.empty = M.getD (40 + i) ByteArray.empty) : VS N n m (flp T p) (ups V k { V k with lf := ups (V k).lf (b / 3) 0, e := ups (V k).e b none }) := by
  obtain ⟨O, h⟩ := h
  have q := h.ok k hk
  have hl : b / 3 < 20 := by omega
  have hlo : O p = some (k, b / 3 + 1) := by
    have := q.lo _ hl (by omega)
    rwa [hn, Nat.add_sub_cancel] at this
  have hpn : p < n := by have := q.ln _ hl; omega
  have hpr : p ≠ (V k).r := fun e => by rw [e, q.ro] at hlo; cases hlo
  refine ⟨ups O p none, fun j hj => ?_, fun i hi => ?_, fun i j hi ho => ?_, fun i j l hi ho => ?_⟩
  · by_cases ej : j = k
    · subst ej
      rw [ups_same]
      have hne : ∀ i a, i < n → O i = some (j, a) → a ≠ 0 → N.getD (40 + i) ByteArray.empty = M.getD (40 + i) ByteArray.empty := fun i a hi ho ha => hr i hi (fun e => ha (by rw [e, q.ro] at ho; cases ho; rfl))
      refine ⟨q.num, q.rn, ?_, hr1, fun l hl' => ?_, fun l hl' hn' => ?_, fun l hl' hn' => ?_, fun l hl' => ?_, fun i hi => ?_⟩
      · show ups O p _ (V j).r = _
        rw [ups_other _ _ (Ne.symm hpr)]
        exact q.ro
      · show ups (V j).lf (b / 3) 0 l ≤ n
        by_cases el : l = b / 3
        · subst el; rw [ups_same]; omega
        · rw [ups_other _ _ el]; exact q.ln l hl'
      · replace hn' : ups (V j).lf (b / 3) 0 l ≠ 0 := hn'
        show ups O p _ (ups (V j).lf (b / 3) 0 l - 1) = _
        by_cases el : l = b / 3
        · subst el; rw [ups_same] at hn'; exact absurd rfl hn'
        · rw [ups_other _ _ el] at hn' ⊢
          have h1 := q.lo l hl' hn'
          rw [ups_other _ _ (fun e => by rw [e, hlo] at h1; cases h1; exact el rfl)]
          exact h1
      · replace hn' : ups (V j).lf (b / 3) 0 l ≠ 0 := hn'
        show N.getD (40 + (ups (V j).lf (b / 3) 0 l - 1)) ByteArray.empty = lfP (V j).num l (fun i => ups (V j).e b none (3 * l + i))
        by_cases el : l = b / 3
        · subst el; rw [ups_same] at hn'; exact absurd rfl hn'
        · rw [ups_other _ _ el] at hn' ⊢
          have hb' := q.ln l hl'
          rw [hne _ (l + 1) (by omega) (q.lo l hl' hn') (by omega), q.lp l hl' hn']
          have : ∀ i, i < 3 → (V j).f l i = ups (V j).e b none (3 * l + i) := fun i hi => by
            rw [ups_other _ _ (by omega)]
            rfl
          unfold lfP lfB lfL
          rw [mks3, mks3, e3_t3, e3_t3]
          simp only [t3, if_true, this 0 (by omega), this 1 (by omega), this 2 (by omega)]
      · show ups (V j).lf (b / 3) 0 l = 0 ↔ ∀ i, i < 3 → ups (V j).e b none (3 * l + i) = none
        by_cases el : l = b / 3
        · subst el
          rw [ups_same]
          exact ⟨fun _ => hs, fun _ => rfl⟩
        · rw [ups_other _ _ el, q.em l hl']
          refine ⟨fun q' i hi => by rw [ups_other _ _ (by omega)]; exact q' i hi, fun q' i hi => ?_⟩
          have := q' i hi
          rwa [ups_other _ _ (by omega)] at this
      · show EOk (ups (V j).e b none i)
        by_cases ei : i = b
        · subst ei; rw [ups_same]; exact EOk.none
        · rw [ups_other _ _ ei]; exact q.eo i hi
    · rw [ups_other _ _ ej]
      exact (h.ok j hj).over (fun i a hi ho => ⟨hr i hi (fun e => by rw [e, q.ro] at ho; cases ho; exact ej rfl), by rw [ups_other _ _ (fun e => by rw [e, hlo] at ho; cases ho; exact ej rfl)]⟩)
  · by_cases ei : i = p
    · subst ei; rw [flip_same, h.tk i hi, hlo, ups_same]; rfl
    · rw [flip_other _ ei, ups_other _ _ ei]; exact h.tk i hi
  · by_cases ei : i = p
    · subst ei; rw [ups_same] at ho; cases ho
    · rw [ups_other _ _ ei] at ho
      obtain ⟨q1, q2⟩ := h.or i j hi ho
      refine ⟨q1, ?_⟩
      by_cases ej : j = k
      · subst ej; rw [ups_same]; exact q2
      · rw [ups_other _ _ ej]; exact q2
  · by_cases ei : i = p
    · subst ei; rw [ups_same] at ho; cases ho
    · rw [ups_other _ _ ei] at ho
      obtain ⟨q1, q2, q3⟩ := h.ol i j l hi ho
      refine ⟨q1, q2, ?_⟩
      by_cases ej : j = k
      · subst ej
        rw [ups_same]
        show ups (V j).lf (b / 3) 0 l = i + 1
        rw [ups_other _ _ (fun e => by rw [e, hn] at q3; omega)]
        exact q3
      · rw [ups_other _ _ ej]; exact q3
/-- A volume in which nothing is mapped. -/
def Vol.new (r num : Nat) : Vol := ⟨r, num, fun _ => 0, fun _ => none⟩
theorem VS.create {M N : List ByteArray} {n m : Nat} {T : Nat → Bool} {V : Nat → Vol} (h : VS M n m T V) (p num : Nat) (hp : p < n) (hT : T p = false) (hnum : num ≤ 1000000) (hr1 : N.getD (40 + p) ByteArray.empty = rtP num (fun _ => 0)) (hr : ∀ i, i < n → i ≠ p → N.getD (40 + i) ByteArray.empty = M.getD (40 + i) ByteArray.empty) : VS N n (m + 1) (flp T p) (ups V m (Vol.new p num)) := by
  obtain ⟨O, h⟩ := h
  have hpn : O p = none := by
    have := h.tk p hp
    rw [hT] at this
    cases ho : O p with
    | none => rfl
    | some x => rw [ho] at this; cases this
  have hno : ∀ i a, O i = some a → i ≠ p := fun i a ho e => by rw [e, hpn] at ho; cases ho
  refine ⟨ups O p (some (m, 0)), fun j hj => ?_, fun i hi => ?_, fun i j hi ho => ?_, fun i j l hi ho => ?_⟩
  · by_cases ej : j = m
    · subst ej
      rw [ups_same]
      exact ⟨hnum, hp, ups_same _ _ _, hr1, fun _ _ => Nat.zero_le _, fun _ _ q => absurd rfl q, fun _ _ q => absurd rfl q, fun _ _ => ⟨fun _ _ _ => rfl, fun _ => rfl⟩, fun _ _ => EOk.none⟩
    · rw [ups_other _ _ ej]
      exact (h.ok j (by omega)).over (fun i a hi ho => ⟨hr i hi (hno i _ ho), by rw [ups_other _ _ (hno i _ ho)]⟩)
  · by_cases ei : i = p
    · subst ei; rw [flip_same, hT, ups_same]; rfl
    · rw [flip_other _ ei, ups_other _ _ ei]; exact h.tk i hi
  · by_cases ei : i = p
    · subst ei
      rw [ups_same] at ho
      cases ho
      exact ⟨by omega, by rw [ups_same]; rfl⟩
    · rw [ups_other _ _ ei] at ho
      obtain ⟨q1, q2⟩ := h.or i j hi ho
      exact ⟨by omega, by rw [ups_other _ _ (by omega)]; exact q2⟩
  · by_cases ei : i = p
    · subst ei; rw [ups_same] at ho; cases ho
    · rw [ups_other _ _ ei] at ho
      obtain ⟨q1, q2, q3⟩ := h.ol i j l hi ho
      exact ⟨by omega, q2, by rw [ups_other _ _ (by omega)]; exact q3⟩
theorem VS.empty (M : List ByteArray) (n : Nat) (V : Nat → Vol) : VS M n 0 (fun _ => false) V := ⟨fun _ => Option.none, fun _ h => absurd h (Nat.not_lt_zero _), fun _ _ => rfl, fun _ _ _ h => (by cases h), fun _ _ _ _ h => (by cases h)⟩
end Go.Proofs.YtjlgbafcpoakmaaGreatDoor

namespace Go.Proofs.YtjlgbafcpoakmaaGreatDoor
open Go.RowKit
theorem rep_zero (c : Nat) : (⟨(Lib.repeatL (ByteArray.mk #[0]).data.toList c).toArray⟩ : ByteArray) = strOfNums (List.replicate c 0) := by
  have h : Lib.repeatL (ByteArray.mk #[0]).data.toList c = List.replicate c 0 := by
    have := Lib.repeatL_replicate 0 1 c
    rw [Nat.mul_one] at this
    exact this
  rw [h, strOfNums]
  simp
theorem rep_ok : RepOk := by
  intro c W hc
  have h := Tryz.strings_Repeat ⟨#[0]⟩ c W (by omega) (by show 1 * c ≤ _; omega)
  rw [rep_zero] at h
  exact h
end Go.Proofs.YtjlgbafcpoakmaaGreatDoor

namespace Go.Proofs.YtjlgbafcpoakmaaGreatDoor
open Go.RowKit
theorem num_step (k : Nat) (h1 : 1 ≤ k) (h8 : k ≤ 8) (A : Int) (hf : fitsP A k) (hA : A ≤ 9223372036854775807) (L : List Int) (hL : Bytes L) (t : Int) :
    numE (k : Int) (strOfNums (numB A k ++ L)) = 0 ∧ numV (k : Int) (strOfNums (numB A k ++ L)) = A ∧ stepR ⟨strOfNums (numB A k ++ L), t, 0⟩ (numE (k : Int) (strOfNums (numB A k ++ L))) ((k : Int).toNat) = ⟨strOfNums L, t + (k : Int), 0⟩ := by
  have hb : Bytes (numB A k ++ L) := bytes_app (numB_bytes A k) hL
  have hn : nums (strOfNums (numB A k ++ L)) = numB A k ++ L := nums_strOfNums _ hb
  have hs : (strOfNums (numB A k ++ L)).size = k + L.length := by rw [strOfNums_size, List.length_append, numB_len]
  have ht : (nums (strOfNums (numB A k ++ L))).take k = numB A k := by rw [hn, List.take_left' (numB_len A k)]
  have hE : numE (k : Int) (strOfNums (numB A k ++ L)) = 0 := by
    rw [numE, if_neg (by omega), if_neg (by omega), Int.toNat_natCast, ht, be_numB A k hf, if_neg (by omega)]
  refine ⟨hE, ?_, ?_⟩
  · rw [numV, if_pos hE, Int.toNat_natCast, ht, be_numB A k hf]
  · unfold stepR
    rw [hE, Int.toNat_natCast]
    simp only [if_true, rRest, rTak]
    congr 1
    apply nums_inj
    rw [nums_tail, hn, nums_strOfNums L hL, List.drop_left' (numB_len A k)]
theorem wnumK {w wr : World} {base b : Nat} {v : Value} {l : List Int} (h : WPost base b v l 0 w wr) (hb : base ≤ w.heap.size) (k : Nat) (h1 : 1 ≤ k) (h8 : k ≤ 8) (n : Int) (hf : fitsP n k) (hsz : l.length ≤ 1000) (K : Int) (hK : K = (k : Int)) (l' : List Int) (hl : l ++ numB n k = l') :
    Calls Tryz.prog 163 #[.pointer (some ⟨b, 0, none⟩), .int .i64 K, .slice (some ⟨wr.heap.size, 0, none⟩) 1 1] (wr.alloc (Obj.cells #[.int .i64 n] 3)) fun ev w' => ev = .returned (.tuple #[]) ∧ WPost base b v l' 0 w w' := by
  subst hK
  refine (numK h hb (k : Int) [n] #[.int .i64 n] rfl (by simp; omega) 1 rfl).mono ?_
  rintro ev w' ⟨rfl, hp⟩
  have hE : errN (k : Int) [n] = 0 := by
    rw [errN, if_neg (by omega), if_pos]
    intro m hm
    simp at hm
    subst hm
    exact hf
  rw [hE, wl_good, we_good] at hp
  have ho : outN ((k : Int).toNat) [n] = numB n k := by simp [outN]
  rw [ho, hl] at hp
  exact ⟨rfl, hp⟩
theorem rnumK {w : World} {b : Nat} {k : Nat} {A : Int} {L : List Int} {t : Int} (h : Rds w b ⟨strOfNums (numB A k ++ L), t, 0⟩) (hg : ETy w) (h1 : 1 ≤ k) (h8 : k ≤ 8) (hf : fitsP A k) (hA : A ≤ 9223372036854775807) (hL : Bytes L) (ht : 0 ≤ t) (hs : t + ((k + L.length : Nat) : Int) ≤ 9223372036854775807) (K : Int) (hK : K = (k : Int)) (t' : Int) (ht' : t + (k : Int) = t') :
    Calls Tryz.prog 185 #[.pointer (some ⟨b, 0, none⟩), .int .i64 K] w fun ev w' => ev = .returned (.int .i64 A) ∧ Rds w' b ⟨strOfNums L, t', 0⟩ ∧ Only (fun k => k = b) w w' := by
  subst hK
  obtain ⟨q1, q2, q3⟩ := num_step k h1 h8 A hf hA L hL t
  refine (numS w b ⟨strOfNums (numB A k ++ L), t, 0⟩ h hg ⟨ht, by show t + (((strOfNums (numB A k ++ L)).size : Nat) : Int) ≤ _; rw [strOfNums_size, List.length_append, numB_len]; exact hs⟩ (k : Int)).mono ?_
  rintro ev w' ⟨rfl, g1, g2⟩
  refine ⟨by simp only [if_true]; rw [q2], ?_, g2⟩
  rw [q3, ht'] at g1
  exact g1

theorem iload_blk {W : World} {b : Nat} {cur : Array Value} {T : TypeId} (ty : TypeId) (d : TypeDesc) (h : Blk W b cur T) (hu : Tryz.prog.underlying ty = some d) (hd : d.isRow = true) (hi : (Tryz.prog.info? ty).map (·.size) = some cur.size) : (loadVar ty ⟨b, 0, none⟩).run Tryz.prog W = .ok (.agg cur) W := by
  have := run_loadVar_mid (P := Tryz.prog) W b 0 ty cur.toList d (fun j v hv => by rw [Nat.zero_add, h.cell j]; simpa using hv) hu hd (by simpa using hi)
  simpa using this
theorem results_cell2 {fn : Func} {p q : Tmp} {ty : TypeId} (h : fn.results = #[.cell p ty, .tmp q]) (tmps : Array Value) (P : Program) (w : World) (ad : Addr) (ha : tmps.getD p undef = .pointer (some ad)) (v : Value) (hl : (loadVar ty ad).run P w = .ok v w) :
    (results fn tmps).run P w = .ok (.tuple #[v, tmps.getD q undef]) w := by
  have ha' : tmps[p]?.getD undef = .pointer (some ad) := by simpa using ha
  simp only [results, h]
  simp [ha', asAddr, hl]
theorem blk_there {W : World} {g : Nat} {cur : Array Value} {T : TypeId} (h : Blk W g cur T) (n : Nat) (hn : n = cur.size) : W.there g 0 n := fun j hj => ⟨by rw [h.cell, Nat.zero_add]; simp; omega, h.frozen _⟩
theorem setCells_blk : ∀ (vs pre post : List Value) {w : World} {b : Nat} {cur : Array Value} {T : TypeId} (_ : Blk w b cur T) (mid : List Value) (_ : mid.length = vs.length) (_ : cur = (pre ++ mid ++ post).toArray), Blk (w.setCells b pre.length vs) b (pre ++ vs ++ post).toArray T
  | [], pre, post, w, b, cur, T, h, mid, hm, hc => by
    have : mid = [] := List.length_eq_zero_iff.1 hm
    subst this
    rw [World.setCells, ← hc]
    exact h
  | v :: r, pre, post, w, b, cur, T, h, mid, hm, hc => by
    cases mid with
    | nil => simp at hm
    | cons x m =>
      rw [World.setCells]
      have h1 := h.set pre.length v
      have e1 : cur.setIfInBounds pre.length v = ((pre ++ [v]) ++ m ++ post).toArray := by
        rw [hc]
        apply Array.ext'
        simp
      have := setCells_blk r (pre ++ [v]) post h1 m (by simpa using hm) e1
      simpa using this
theorem blk_cells_other : ∀ (vs : List Value) (o : Nat) {w : World} {b : Nat} {cur : Array Value} {T : TypeId} (_ : Blk w b cur T) (b' : Nat) (_ : b' ≠ b), Blk (w.setCells b' o vs) b cur T
  | [], _, _, _, _, _, h, _, _ => h
  | v :: r, o, w, b, cur, T, h, b', hb => by
    rw [World.setCells]
    exact blk_cells_other r (o + 1) (h.other _ v hb) b' hb
theorem only_cells {w : World} (b o : Nat) (vs : List Value) {P : Nat → Prop} (hP : P b) : Only P w (w.setCells b o vs) := by
  induction vs generalizing w o with
  | nil => exact Only.refl _ _
  | cons v r ih =>
    rw [World.setCells]
    exact ((Only.refl P w).setCell ⟨b, o, none⟩ v (fun _ => hP)).trans (ih _) (fun _ _ q => q)
/-- A row of bytes at the front is taken. -/
theorem raw_stepL (A : List Int) (hA : Bytes A) (k : Nat) (hk : A.length = k) (L : List Int) (hL : Bytes L) (t : Int) :
    rawE (k : Int) (strOfNums (A ++ L)) = 0 ∧ rawV (k : Int) (strOfNums (A ++ L)) = strOfNums A ∧ stepR ⟨strOfNums (A ++ L), t, 0⟩ (rawE (k : Int) (strOfNums (A ++ L))) ((k : Int).toNat) = ⟨strOfNums L, t + (k : Int), 0⟩ := by
  have hb : Bytes (A ++ L) := bytes_app hA hL
  have hn : nums (strOfNums (A ++ L)) = A ++ L := nums_strOfNums _ hb
  have hs : (strOfNums (A ++ L)).size = k + L.length := by rw [strOfNums_size, List.length_append, hk]
  have hE : rawE (k : Int) (strOfNums (A ++ L)) = 0 := by rw [rawE, if_neg (by omega), if_neg (by omega)]
  refine ⟨hE, ?_, ?_⟩
  · rw [rawV, if_pos hE]
    apply nums_inj
    rw [nums_extract, hn, List.drop_zero, Int.toNat_natCast, nums_strOfNums A hA]
    exact List.take_left' hk
  · unfold stepR
    rw [hE, Int.toNat_natCast]
    simp only [if_true, rRest, rTak]
    congr 1
    apply nums_inj
    rw [nums_tail, hn, nums_strOfNums L hL]
    exact List.drop_left' hk
theorem rrawK {w : World} {b : Nat} {A L : List Int} {t : Int} (h : Rds w b ⟨strOfNums (A ++ L), t, 0⟩) (hg : ETy w) (hA : Bytes A) (k : Nat) (hk : A.length = k) (hL : Bytes L) (ht : 0 ≤ t) (hs : t + ((k + L.length : Nat) : Int) ≤ 9223372036854775807) (K : Int) (hK : K = (k : Int)) (t' : Int) (ht' : t + (k : Int) = t') :
    Calls Tryz.prog 186 #[.pointer (some ⟨b, 0, none⟩), .int .i64 K] w fun ev w' => ev = .returned (.string (strOfNums A)) ∧ Rds w' b ⟨strOfNums L, t', 0⟩ ∧ Only (fun k => k = b) w w' := by
  subst hK
  obtain ⟨q1, q2, q3⟩ := raw_stepL A hA k hk L hL t
  refine (rawS w b ⟨strOfNums (A ++ L), t, 0⟩ h hg ⟨ht, by show t + (((strOfNums (A ++ L)).size : Nat) : Int) ≤ _; rw [strOfNums_size, List.length_append, hk]; exact hs⟩ (k : Int)).mono ?_
  rintro ev w' ⟨rfl, g1, g2⟩
  refine ⟨by simp only [if_true]; rw [q2], ?_, g2⟩
  rw [q3, ht'] at g1
  exact g1
theorem sizeTree : (Tryz.prog.info? 94).map (·.size) = some 22 := by kernel_rfl
theorem sizeLeaf : (Tryz.prog.info? 106).map (·.size) = some 6 := by kernel_rfl
theorem sizeEntr : (Tryz.prog.info? 41).map (·.size) = some 2 := by kernel_rfl
/-- The cells of a tree. -/
def trC (r num : Int) (lf : Nat → Nat) : List Value := .int .i64 r :: .int .i64 num :: (lvL lf).map (Value.int .i64)
theorem trC_len (r num : Int) (lf : Nat → Nat) : (trC r num lf).length = 22 := by simp [trC, lvL_len]
theorem trC_0 (r num : Int) (lf : Nat → Nat) : (trC r num lf).toArray[0]? = some (.int .i64 r) := by simp [trC]
theorem trC_1 (r num : Int) (lf : Nat → Nat) : (trC r num lf).toArray[1]? = some (.int .i64 num) := by simp [trC]
theorem trC_at (r num : Int) (lf : Nat → Nat) (l : Nat) (h : l < 20) : (trC r num lf).toArray[2 + l]? = some (.int .i64 (lf l : Int)) := by
  rw [Nat.add_comm]
  simp [trC, lvL_get lf l h]
theorem trC_one (r num : Int) (lf : Nat → Nat) : (trC r num lf).toArray.all (·.oneCell') = true := all_oneCell_toArray (fun v hv => by
  simp only [trC, List.mem_cons, List.mem_map] at hv
  rcases hv with rfl | rfl | ⟨x, _, rfl⟩ <;> rfl)
theorem trC_set (r num : Int) (lf : Nat → Nat) (l : Nat) (h : l < 20) (x : Nat) : (trC r num lf).toArray.setIfInBounds (2 + l) (.int .i64 (x : Int)) = (trC r num (ups lf l x)).toArray := by
  apply Array.ext'
  rw [Array.toList_setIfInBounds]
  show (trC r num lf).set (2 + l) (.int .i64 (x : Int)) = trC r num (ups lf l x)
  apply List.ext_getElem?
  intro i
  rw [List.getElem?_set, trC_len]
  by_cases e : 2 + l = i
  · subst e
    rw [if_pos rfl, if_pos (by omega)]
    have := trC_at r num (ups lf l x) l h
    rw [ups_same] at this
    simpa using this.symm
  · rw [if_neg e]
    by_cases e0 : i = 0
    · subst e0; simp [trC]
    by_cases e1 : i = 1
    · subst e1; simp [trC]
    by_cases e2 : i < 22
    · obtain ⟨j, rfl⟩ : ∃ j, i = 2 + j := ⟨i - 2, by omega⟩
      have a := trC_at r num lf j (by omega)
      have b := trC_at r num (ups lf l x) j (by omega)
      rw [ups_other _ _ (by omega)] at b
      have a' : (trC r num lf)[2 + j]? = some (.int .i64 (lf j : Int)) := by simpa using a
      have b' : (trC r num (ups lf l x))[2 + j]? = some (.int .i64 (lf j : Int)) := by simpa using b
      rw [a', b']
    · rw [List.getElem?_eq_none (by rw [trC_len]; omega), List.getElem?_eq_none (by rw [trC_len]; omega)]
/-- The cells of a leaf. -/
def lfC (f : Nat → Ent) : List Value := [.string (vtD (f 0)), .string (vtW (f 0)), .string (vtD (f 1)), .string (vtW (f 1)), .string (vtD (f 2)), .string (vtW (f 2))]
theorem lfC_one (f : Nat → Ent) : (lfC f).toArray.all (·.oneCell') = true := by simp [lfC, Value.oneCell']
theorem lfC_len (f : Nat → Ent) : (lfC f).length = 6 := rfl
theorem lfC_at (f : Nat → Ent) (j : Nat) (h : j < 3) : (lfC f).toArray[2 * j]? = some (.string (vtD (f j))) ∧ (lfC f).toArray[2 * j + 1]? = some (.string (vtW (f j))) := by
  have : j = 0 ∨ j = 1 ∨ j = 2 := by omega
  rcases this with rfl | rfl | rfl <;> simp [lfC]
theorem lfC_set (f : Nat → Ent) (j : Nat) (h : j < 3) (e : Ent) : ((lfC f).toArray.setIfInBounds (2 * j) (.string (vtD e))).setIfInBounds (2 * j + 1) (.string (vtW e)) = (lfC (ups f j e)).toArray := by
  have : j = 0 ∨ j = 1 ∨ j = 2 := by omega
  rcases this with rfl | rfl | rfl <;> simp [lfC, ups]
theorem blk_range {W : World} {g : Nat} {cs : List Value} {T : TypeId} (h : Blk W g cs.toArray T) : W.rangeAt g 0 cs := fun j v hv => by
  rw [h.cell, Nat.zero_add]
  simpa using hv
/-- A block is set as a whole. -/
theorem setCells_all {w : World} {b : Nat} {cur : Array Value} {T : TypeId} (h : Blk w b cur T) (vs : List Value) (hl : cur.size = vs.length) : Blk (w.setCells b 0 vs) b vs.toArray T := by
  have := setCells_blk vs [] [] h cur.toList (by simpa using hl) (by simp)
  simpa using this
end Go.Proofs.YtjlgbafcpoakmaaGreatDoor
