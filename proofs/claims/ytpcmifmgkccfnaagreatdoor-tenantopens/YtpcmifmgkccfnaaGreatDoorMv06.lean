import Derived.Test.YtpcmifmgkccfnaaGreatDoorMv05
import Derived.Shelf.LaysM
import Derived.Shelf.Strconv.Clone
import Derived.Shelf.Bits.Mul64
import Derived.Shelf.Strings.Repeat
import Derived.Ground.Names2Prog
import Derived.Shelf.Slices.Clone
import Derived.Test.YtpcmifmgkccfnaaGreatDoorProg
namespace Go.Proofs.YtpcmifmgkccfnaaGreatDoor
open Go.RowKit
theorem shr_step (v : Int) (k : Nat) : v / 2 ^ (8 * k) / 256 = v / 2 ^ (8 * (k + 1)) := by
  rw [Int.ediv_ediv_of_nonneg (by exact Int.pow_nonneg (by omega)), show 8 * (k + 1) = 8 * k + 8 by omega, Int.pow_add]
  rfl
theorem be_numB_take (v : Int) (k : Nat) (h : fitsP v k) : ∀ j, j ≤ k → beN ((numB v k).take j) = v / 2 ^ (8 * (k - j)) := by
  intro j
  induction j with
  | zero =>
    intro _
    rw [List.take_zero, beN_nil, Nat.sub_zero]
    exact h.2.symm
  | succ j ih =>
    intro hj
    rw [numB_take v k j (by omega), beN_snoc, ih (by omega), show k - j = (k - 1 - j) + 1 by omega, ← shr_step, show k - (j + 1) = k - 1 - j by omega]
    generalize v / 2 ^ (8 * (k - 1 - j)) = q
    omega
theorem be_numB (v : Int) (k : Nat) (h : fitsP v k) : beN (numB v k) = v := by
  have := be_numB_take v k h k (Nat.le_refl _)
  rw [numB_all, Nat.sub_self] at this
  simpa using this
theorem size_tail (s : ByteArray) (a : Nat) : (s.extract a s.size).size = s.size - a := by simp
theorem getD_drop0 (l : List Int) (i : Nat) : beN ((l.drop i).take 1) = l.getD i 0 := by
  by_cases h : i < l.length
  · rw [List.drop_eq_getElem_cons h, List.getD_eq_getElem?_getD, List.getElem?_eq_getElem h]
    exact be_one _ _
  · rw [List.drop_eq_nil_of_le (by omega), List.getD_eq_getElem?_getD, List.getElem?_eq_none (by omega)]
    rfl
set_option maxRecDepth 100000 in
theorem numE_ok (k : Nat) (r : ByteArray) (h1 : 1 ≤ k) (h7 : k ≤ 7) (h : k ≤ r.size) : numE (k : Int) r = 0 := by
  have hb := be_bound (nums r) (nums_bytes r) k
  have hp : (256 : Int) ^ k ≤ 256 ^ 7 := by
    have h1 : (256 : Nat) ^ k ≤ 256 ^ 7 := Nat.pow_le_pow_right (by decide) h7
    exact_mod_cast h1
  have h77 : (256 : Int) ^ 7 = 72057594037927936 := by decide
  rw [numE, if_neg (by omega), if_neg (by omega), Int.toNat_natCast, if_neg (by omega)]
theorem ps1_eq (s : ByteArray) (h : 2 ≤ s.size) : ps1 s = ⟨s.extract 2 s.size, 2, 0⟩ := by
  have hE : rawE 2 s = 0 := by rw [rawE, if_neg (by omega), if_neg (by omega)]
  rw [ps1, stepR, if_pos rfl, hE, rRest, if_pos rfl, rTak, if_pos rfl]
  rfl
theorem ps2_eq (s : ByteArray) (h : 3 ≤ s.size) : pkd s = (nums s).getD 2 0 ∧ ps2 s = ⟨s.extract 3 s.size, 3, 0⟩ := by
  have hE : numE 1 (s.extract 2 s.size) = 0 := numE_ok 1 _ (by omega) (by omega) (by rw [size_tail]; omega)
  refine ⟨?_, ?_⟩
  · rw [pkd, ps1_eq s (by omega), if_pos rfl, numV, if_pos hE, nums_tail]
    exact getD_drop0 _ _
  · rw [ps2, ps1_eq s (by omega), stepR, if_pos rfl, hE, rRest, if_pos rfl, rTak, if_pos rfl, extract_tail]
    rfl
theorem ps3_eq (s : ByteArray) (h : 4 ≤ s.size) : pln s = (nums s).getD 3 0 ∧ ps3 s = ⟨s.extract 4 s.size, 4, 0⟩ := by
  have hE : numE 1 (s.extract 3 s.size) = 0 := numE_ok 1 _ (by omega) (by omega) (by rw [size_tail]; omega)
  refine ⟨?_, ?_⟩
  · rw [pln, (ps2_eq s (by omega)).2, if_pos rfl, numV, if_pos hE, nums_tail]
    exact getD_drop0 _ _
  · rw [ps3, (ps2_eq s (by omega)).2, stepR, if_pos rfl, hE, rRest, if_pos rfl, rTak, if_pos rfl, extract_tail]
    rfl
theorem ps4_eq (s : ByteArray) (h : 8 ≤ s.size) : pnm s = beN (((nums s).drop 4).take 4) ∧ ps4 s = ⟨s.extract 8 s.size, 8, 0⟩ := by
  have hE : numE 4 (s.extract 4 s.size) = 0 := numE_ok 4 _ (by omega) (by omega) (by rw [size_tail]; omega)
  refine ⟨?_, ?_⟩
  · rw [pnm, (ps3_eq s (by omega)).2, if_pos rfl, numV, if_pos hE, nums_tail]
    rfl
  · rw [ps4, (ps3_eq s (by omega)).2, stepR, if_pos rfl, hE, rRest, if_pos rfl, rTak, if_pos rfl, extract_tail]
    rfl
theorem pbd_eq (s : ByteArray) (n : Nat) (h : 8 + n ≤ s.size) (hn : (nums s).getD 3 0 = (n : Int)) : pbd s = s.extract 8 (8 + n) := by
  have hE : rawE (n : Int) (s.extract 8 s.size) = 0 := by rw [rawE, if_neg (by omega), if_neg (by rw [size_tail]; omega)]
  rw [pbd, (ps4_eq s (by omega)).2, if_pos rfl, (ps3_eq s (by omega)).1, hn, rawV, if_pos hE, Int.toNat_natCast, extract_mid]
/-- The letters and numbers at the front of a page. -/
theorem page_front (kind number : Int) (body : List Int) (hk : fitsP kind 1) (hb : body.length ≤ 244) : makeL kind number body = [83, 66, kind, (body.length : Int)] ++ (numB number 4 ++ (body ++ (List.replicate (244 - body.length) 0 ++ le4 (chkN (pageL kind number body))))) := by
  obtain ⟨h1, h2⟩ := (fits1 kind).1 hk
  rw [makeL]
  conv => lhs; arg 1; rw [pageL]
  rw [numB1 kind h1 h2, numB1 (body.length : Int) (by omega) (by omega)]
  simp
theorem page_parts (kind number : Int) (body : ByteArray) (hk : fitsP kind 1) (hn : fitsP number 4) (hb : body.size ≤ 244) (s : ByteArray) (hs : nums s = makeL kind number (nums body)) :
    s.size = 256 ∧ (nums s).getD 2 0 = kind ∧ (nums s).getD 3 0 = (body.size : Int) ∧ beN (((nums s).drop 4).take 4) = number ∧ s.extract 8 (8 + body.size) = body := by
  have hl : (nums body).length ≤ 244 := by rw [nums_len]; exact hb
  have hsz : s.size = 256 := by rw [← nums_len, hs]; exact makeL_len _ _ _ hl
  have hf := page_front kind number (nums body) hk hl
  rw [nums_len] at hf
  refine ⟨hsz, ?_, ?_, ?_, ?_⟩
  · rw [hs, hf]; rfl
  · rw [hs, hf]; rfl
  · rw [hs, hf]
    have e1 : ([83, 66, kind, (body.size : Int)] ++ (numB number 4 ++ (nums body ++ (List.replicate (244 - body.size) 0 ++ le4 (chkN (pageL kind number (nums body))))))).drop 4 = numB number 4 ++ (nums body ++ (List.replicate (244 - body.size) 0 ++ le4 (chkN (pageL kind number (nums body))))) := rfl
    rw [e1, List.take_append_of_le_length (by rw [numB_len]; exact Nat.le_refl _), numB_all, be_numB number 4 hn]
  · apply nums_inj
    rw [nums_extract, List.drop_take, hs, hf]
    have e1 : ([83, 66, kind, (body.size : Int)] ++ (numB number 4 ++ (nums body ++ (List.replicate (244 - body.size) 0 ++ le4 (chkN (pageL kind number (nums body))))))).drop 8 = nums body ++ (List.replicate (244 - body.size) 0 ++ le4 (chkN (pageL kind number (nums body)))) := by
      rw [show (8 : Nat) = 4 + 4 from rfl, ← List.drop_drop]
      have e2 : ([83, 66, kind, (body.size : Int)] ++ (numB number 4 ++ (nums body ++ (List.replicate (244 - body.size) 0 ++ le4 (chkN (pageL kind number (nums body))))))).drop 4 = numB number 4 ++ (nums body ++ (List.replicate (244 - body.size) 0 ++ le4 (chkN (pageL kind number (nums body))))) := rfl
      rw [e2]
      have h4 : (numB number 4).length = 4 := numB_len _ _
      conv => lhs; arg 1; rw [← h4]
      rw [List.drop_left]
    rw [e1, show 8 + body.size - 8 = (nums body).length by rw [nums_len]; omega, List.take_left]
/-- A made page is read as itself. -/
theorem make_parse (kind number : Int) (body : ByteArray) (hE : errM kind number body.size = 0) : prOk (makeB kind number body) ∧ pkd (makeB kind number body) = kind ∧ pnm (makeB kind number body) = number ∧ pbd (makeB kind number body) = body := by
  have hm : makeB kind number body = strOfNums (makeL kind number (nums body)) := by rw [makeB, if_pos hE]
  have hf : fitsP kind 1 ∧ fitsP number 4 ∧ body.size ≤ 244 := by
    unfold errM at hE
    split at hE
    · cases hE
    · rename_i h1
      split at hE
      · cases hE
      · simp at h1
        exact ⟨h1.1, h1.2, by omega⟩
  have hn : nums (makeB kind number body) = makeL kind number (nums body) := by rw [hm]; exact nums_strOfNums _ (makeL_bytes _ _ _ (nums_bytes _))
  obtain ⟨p1, p2, p3, p4, p5⟩ := page_parts kind number body hf.1 hf.2.1 hf.2.2 _ hn
  have k1 : pkd (makeB kind number body) = kind := by rw [(ps2_eq _ (by omega)).1, p2]
  have k2 : pnm (makeB kind number body) = number := by rw [(ps4_eq _ (by omega)).1, p4]
  have k3 : pbd (makeB kind number body) = body := by rw [pbd_eq _ body.size (by omega) p3, p5]
  exact ⟨⟨by rw [k1, k2, k3]; exact hE, by rw [k1, k2, k3]⟩, k1, k2, k3⟩
theorem errM_zero {kind number : Int} {n : Nat} (hE : errM kind number n = 0) : fitsP kind 1 ∧ fitsP number 4 ∧ n ≤ 244 := by
  unfold errM at hE
  split at hE
  · cases hE
  · rename_i h1
    split at hE
    · cases hE
    · simp at h1
      exact ⟨h1.1, h1.2, by omega⟩
theorem prOk_size (s : ByteArray) (h : prOk s) : s.size = 256 ∧ (nums s).getD 3 0 ≤ 244 := by
  obtain ⟨hf1, hf2, hf3⟩ := errM_zero h.1
  have hm : s = strOfNums (makeL (pkd s) (pnm s) (nums (pbd s))) := by
    have := h.2
    rw [makeB, if_pos h.1] at this
    exact this.symm
  have hn : nums s = makeL (pkd s) (pnm s) (nums (pbd s)) := by
    have := congrArg nums hm
    rwa [nums_strOfNums _ (makeL_bytes _ _ _ (nums_bytes _))] at this
  obtain ⟨p1, _, p3, _, _⟩ := page_parts (pkd s) (pnm s) (pbd s) hf1 hf2 hf3 s hn
  exact ⟨p1, by rw [p3]; omega⟩
end Go.Proofs.YtpcmifmgkccfnaaGreatDoor

namespace Go.Proofs.YtpcmifmgkccfnaaGreatDoor
open Go.RowKit
def ups {α : Type} (f : Nat → α) (p : Nat) (v : α) : Nat → α := fun i => if i = p then v else f i
theorem ups_same {α : Type} (f : Nat → α) (p : Nat) (v : α) : ups f p v p = v := by unfold ups; rw [if_pos rfl]
theorem ups_other {α : Type} (f : Nat → α) {p i : Nat} (v : α) (h : i ≠ p) : ups f p v i = f i := by unfold ups; rw [if_neg h]
theorem bytes_app {a b : List Int} (ha : Bytes a) (hb : Bytes b) : Bytes (a ++ b) := by
  intro j
  rw [List.getD_eq_getElem?_getD, List.getElem?_append]
  split
  · have := ha j; rwa [List.getD_eq_getElem?_getD] at this
  · have := hb (j - a.length); rwa [List.getD_eq_getElem?_getD] at this
theorem bytes_nil : Bytes [] := fun j => by simp
theorem fits4n (c : Nat) (h : c < 4294967296) : fitsP (c : Int) 4 := by
  refine ⟨by omega, Int.ediv_eq_zero_of_lt (by omega) ?_⟩
  have e : (2 : Int) ^ (8 * 4) = 4294967296 := by decide
  rw [e]
  omega
theorem fits1n (c : Nat) (h : c < 256) : fitsP (c : Int) 1 := by
  refine ⟨by omega, Int.ediv_eq_zero_of_lt (by omega) ?_⟩
  have e : (2 : Int) ^ (8 * 1) = 256 := by decide
  rw [e]
  omega
/-- What a page tells of its tenant: is he there, quota, charge, volumes (number, root) by rising numbers. -/
structure Rc where
  th : Bool
  q : Nat
  c : Nat
  v : List (Nat × Nat)
def Rc.at (r : Rc) (k : Nat) : Nat × Nat := r.v.getD k (0, 0)
def Rc0 : Rc := ⟨false, 0, 0, []⟩
structure ROk (r : Rc) : Prop where
  nt : r.th = false → r = Rc0
  q : r.q ≤ 65535
  c : r.c ≤ r.q
  n : r.v.length ≤ 8
  vo : ∀ k, k < r.v.length → (r.at k).1 ≤ 99 ∧ (r.at k).2 ≤ 1023
  ri : ∀ k, k + 1 < r.v.length → (r.at k).1 < (r.at (k + 1)).1
theorem ROk.zero : ROk Rc0 := ⟨fun _ => rfl, by simp [Rc0], by simp [Rc0], by simp [Rc0], fun k hk => absurd hk (by simp [Rc0]), fun k hk => absurd hk (by simp [Rc0])⟩
theorem Rc.at_ge (r : Rc) (k : Nat) (h : r.v.length ≤ k) : r.at k = (0, 0) := by
  unfold Rc.at
  rw [List.getD_eq_getElem?_getD, List.getElem?_eq_none h]
  rfl
theorem ROk.at8 {r : Rc} (h : ROk r) (k : Nat) : (r.at k).1 ≤ 99 ∧ (r.at k).2 ≤ 1023 := by
  by_cases hk : k < r.v.length
  · exact h.vo k hk
  · rw [r.at_ge k (by omega)]; exact ⟨by decide, by decide⟩
def mkR (r : Rc) : Nat := if r.th then 1 else 0
theorem mkR_le (r : Rc) : mkR r ≤ 1 := by unfold mkR; split <;> omega
/-- The bytes of the volumes from the k-th on. -/
def vT (f : Nat → Nat × Nat) : Nat → Nat → List Int
  | _, 0 => []
  | k, m + 1 => numB ((f k).1 : Int) 1 ++ (numB ((f k).2 : Int) 4 ++ vT f (k + 1) m)
theorem vT_bytes (f : Nat → Nat × Nat) : ∀ m k, Bytes (vT f k m)
  | 0, _ => bytes_nil
  | m + 1, k => bytes_app (numB_bytes _ _) (bytes_app (numB_bytes _ _) (vT_bytes f m (k + 1)))
theorem vT_len (f : Nat → Nat × Nat) : ∀ m k, (vT f k m).length = 5 * m
  | 0, _ => rfl
  | m + 1, k => by rw [vT, List.length_append, List.length_append, numB_len, numB_len, vT_len f m (k + 1)]; omega
theorem vT_step (f : Nat → Nat × Nat) (k : Nat) (h : k < 8) : vT f k (8 - k) = numB ((f k).1 : Int) 1 ++ (numB ((f k).2 : Int) 4 ++ vT f (k + 1) (8 - (k + 1))) := by
  rw [show 8 - k = (8 - (k + 1)) + 1 by omega, vT]
/-- The bytes of the first k volumes. -/
def vF (f : Nat → Nat × Nat) : Nat → List Int
  | 0 => []
  | k + 1 => (vF f k ++ numB ((f k).1 : Int) 1) ++ numB ((f k).2 : Int) 4
theorem vF_len (f : Nat → Nat × Nat) : ∀ k, (vF f k).length = 5 * k
  | 0 => rfl
  | k + 1 => by rw [vF, List.length_append, List.length_append, numB_len, numB_len, vF_len f k]; omega
theorem vF_vT (f : Nat → Nat × Nat) : ∀ k, k ≤ 8 → vF f k ++ vT f k (8 - k) = vT f 0 8
  | 0, _ => rfl
  | k + 1, h => by rw [← vF_vT f k (by omega), vT_step f k (by omega), vF]; simp
theorem vF_all (f : Nat → Nat × Nat) : vF f 8 = vT f 0 8 := by have := vF_vT f 8 (by omega); simpa [vT] using this
/-- The body of a record's page. -/
def bdT1 (r : Rc) : List Int := numB (r.v.length : Int) 1 ++ vT r.at 0 8
def bdT2 (r : Rc) : List Int := numB (r.c : Int) 4 ++ bdT1 r
def bdT3 (r : Rc) : List Int := numB (r.q : Int) 4 ++ bdT2 r
def bdL (r : Rc) : List Int := numB (mkR r : Int) 1 ++ bdT3 r
theorem bdT1_len (r : Rc) : (bdT1 r).length = 41 := by rw [bdT1, List.length_append, numB_len, vT_len]
theorem bdT2_len (r : Rc) : (bdT2 r).length = 45 := by rw [bdT2, List.length_append, numB_len, bdT1_len]
theorem bdT3_len (r : Rc) : (bdT3 r).length = 49 := by rw [bdT3, List.length_append, numB_len, bdT2_len]
theorem bdL_len (r : Rc) : (bdL r).length = 50 := by rw [bdL, List.length_append, numB_len, bdT3_len]
/-- How a body is written: front by front. -/
def bdF (r : Rc) (k : Nat) : List Int := (((numB (mkR r : Int) 1 ++ (numB (r.q : Int) 4 ++ numB (r.c : Int) 4)) ++ numB (r.v.length : Int) 1) ++ vF r.at k)
theorem bdF_all (r : Rc) : bdF r 8 = bdL r := by rw [bdF, vF_all, bdL, bdT3, bdT2, bdT1]; simp
def bdR (r : Rc) : ByteArray := strOfNums (bdL r)
theorem bdR_size (r : Rc) : (bdR r).size = 50 := by rw [bdR, strOfNums_size, bdL_len]
def pgR (k : Nat) (r : Rc) : ByteArray := makeB 5 (k : Int) (bdR r)
theorem pgR_err (k : Nat) (r : Rc) (h : k ≤ 8) : errM 5 (k : Int) (bdR r).size = 0 := by
  have h1 : fitsP 5 1 := by decide
  have h2 := fits4n k (by omega)
  rw [errM, if_neg (fun q => q.elim (fun a => a h1) (fun a => a h2)), if_neg (by rw [bdR_size]; omega)]
theorem pgR_parse (k : Nat) (r : Rc) (h : k ≤ 8) : prOk (pgR k r) ∧ pkd (pgR k r) = 5 ∧ pnm (pgR k r) = (k : Int) ∧ pbd (pgR k r) = bdR r := make_parse 5 (k : Int) (bdR r) (pgR_err k r h)
theorem pgR_size (k : Nat) (r : Rc) (h : k ≤ 8) : (pgR k r).size = 256 := (prOk_size _ (pgR_parse k r h).1).1
/-- The eight pages from the sector a on tell the table. -/
def TS (M : List ByteArray) (a : Nat) (R : Nat → Rc) : Prop := ∀ k, k < 8 → M.getD (a + k) ByteArray.empty = pgR (k + 1) (R k) ∧ ROk (R k)
theorem TS.put {M : List ByteArray} {a : Nat} {R : Nat → Rc} (h : TS M a R) (hl : a + 8 ≤ M.length) (p : Nat) (hp : p < 8) (r : Rc) (hr : ROk r) : TS (M.set (a + p) (pgR (p + 1) r)) a (ups R p r) := fun k hk => by
  rw [List.getD_eq_getElem?_getD, List.getElem?_set]
  by_cases e : a + p = a + k
  · obtain rfl : p = k := by omega
    rw [if_pos rfl, if_pos (by omega), ups_same]
    exact ⟨rfl, hr⟩
  · rw [if_neg e, ups_other _ _ (by omega), ← List.getD_eq_getElem?_getD]
    exact h k hk
/-- The quotas of the first k tenants. -/
def qs (R : Nat → Rc) : Nat → Nat
  | 0 => 0
  | k + 1 => qs R k + (R k).q
theorem qs_le {R : Nat → Rc} (h : ∀ k, k < 8 → ROk (R k)) : ∀ k, k ≤ 8 → qs R k ≤ 65535 * k
  | 0, _ => by simp [qs]
  | k + 1, hk => by have := qs_le h k (by omega); have := (h k (by omega)).q; rw [qs]; omega
end Go.Proofs.YtpcmifmgkccfnaaGreatDoor

/-
  DERIVED: THE SHELF's CONTRACTS AT THIS DUMP, IN PLAIN WORDS (tools/lay-plain.mjs out of 'TryzShelf.lean', which tools/lay-shelf.mjs wrote): THE SAME DECLARATIONS UNDER THE SAME NAMES: 'import', 'namespace', 'open', 'def', 'theorem' AND NOTHING ELSE: no command of the shelf's: FOR A HAND-IN. Each laying: the table of numbers ('.._ren') and one theorem, a field a fact of the dump's own or the kernel's comparison; each contract: ONE APPLICATION.
-/
namespace Go.Proofs.YtpcmifmgkccfnaaGreatDoor
open Go.Shelf
def Tryz.laysM316_ren : Go.Shelf.Ren := ⟨fun | 316 => 163 | n => n, fun | 9 => 9 | 3 => 3 | 4 => 4 | 37 => 65 | 0 => 0 | 127 => 225 | 5 => 5 | n => n, fun | n => n⟩
theorem Tryz.laysM316 : Go.Proofs.LaysM.n316 Tryz.prog Tryz.laysM316_ren := {
  mixed := by kernel_rfl
  f316 := Tryz.func163.trans (congrArg some (by kernel_rfl))
  t0 := Tryz.underlying0
  a0 := Tryz.isAgg0
  z0 := Tryz.sizeOf0
  v0 := Tryz.zeroValue0
  t3 := Tryz.underlying3
  a3 := Tryz.isAgg3
  z3 := Tryz.sizeOf3
  v3 := Tryz.zeroValue3
  t4 := Tryz.underlying4
  a4 := Tryz.isAgg4
  z4 := Tryz.sizeOf4
  v4 := Tryz.zeroValue4
  t9 := Tryz.underlying9
  a9 := Tryz.isAgg9
  z9 := Tryz.sizeOf9
  v9 := Tryz.zeroValue9
  t37 := Tryz.underlying65
  a37 := Tryz.isAgg65
  z37 := Tryz.sizeOf65
  v37 := Tryz.zeroValue65
  t127 := Tryz.underlying225
  a127 := Tryz.isAgg225
  z127 := Tryz.sizeOf225
  v127 := Tryz.zeroValue225
  t5 := Tryz.underlying5
  a5 := Tryz.isAgg5
  z5 := Tryz.sizeOf5
  v5 := Tryz.zeroValue5
  i0 := by kernel_rfl
  i3 := by kernel_rfl
  i4 := by kernel_rfl
  i5 := by kernel_rfl
  i9 := by kernel_rfl
  i37 := by kernel_rfl
  i127 := by kernel_rfl }
open Go.RowKit in
/-- internal/stringslite.Clone (what strings.Clone calls): "Clone returns a fresh copy of s.": THE SAME BYTES. Of what was there nothing has turned (a new row is laid, and frozen, where s is not empty). (LAID: no walk: one application.) -/
theorem Tryz.stringslite_Clone (s : ByteArray) (w : World) (hlim : s.size ≤ 281474976710656) :
    Calls Tryz.prog 163 #[.string s] w fun e w' => e = .returned (.string s) ∧ Below w.heap.size w w' := Any.stringslite_Clone Tryz.laysM316 s w hlim
def Tryz.lays264_ren : Go.Shelf.Ren := ⟨fun | 264 => 153 | n => n, fun | 53 => 222 | 46 => 171 | n => n, fun | n => n⟩
theorem Tryz.lays264 : Go.Proofs.Lays.n264 Tryz.prog Tryz.lays264_ren := {
  mixed := by kernel_rfl
  f264 := Tryz.func153.trans (congrArg some (by kernel_rfl))
  t46 := Tryz.underlying171
  a46 := Tryz.isAgg171
  z46 := Tryz.sizeOf171
  v46 := Tryz.zeroValue171
  t53 := Tryz.underlying222
  a53 := Tryz.isAgg222
  z53 := Tryz.sizeOf222
  v53 := Tryz.zeroValue222 }
open Go.RowKit Go.Lib in
theorem Tryz.bits_Mul64 (x y : Nat) (hx : x < 18446744073709551616) (hy : y < 18446744073709551616) (w : World) :
    Calls Tryz.prog 153 #[.int .u64 x, .int .u64 y] w fun e w' => e = .returned (.tuple #[.int .u64 ((x * y / 18446744073709551616 : Nat) : Int), .int .u64 ((x * y % 18446744073709551616 : Nat) : Int)]) ∧ w' = w := Any.bits_Mul64 Tryz.lays264 x y hx hy w
def Tryz.lays212_ren : Go.Shelf.Ren := ⟨fun | 212 => 103 | 263 => 152 | 264 => 153 | n => n, fun | 46 => 171 | 51 => 125 | 146 => 220 | 53 => 222 | 148 => 223 | n => n, fun | n => n⟩
theorem Tryz.lays212 : Go.Proofs.Lays.n212 Tryz.prog Tryz.lays212_ren := {
  mixed := by kernel_rfl
  f212 := Tryz.func103.trans (congrArg some (by kernel_rfl))
  f263 := Tryz.func152.trans (congrArg some (by kernel_rfl))
  f264 := Tryz.func153.trans (congrArg some (by kernel_rfl))
  t46 := Tryz.underlying171
  a46 := Tryz.isAgg171
  z46 := Tryz.sizeOf171
  v46 := Tryz.zeroValue171
  t51 := Tryz.underlying125
  a51 := Tryz.isAgg125
  z51 := Tryz.sizeOf125
  v51 := Tryz.zeroValue125
  t53 := Tryz.underlying222
  a53 := Tryz.isAgg222
  z53 := Tryz.sizeOf222
  v53 := Tryz.zeroValue222
  t146 := Tryz.underlying220
  a146 := Tryz.isAgg220
  z146 := Tryz.sizeOf220
  v146 := Tryz.zeroValue220
  t148 := Tryz.underlying223
  a148 := Tryz.isAgg223
  z148 := Tryz.sizeOf223
  v148 := Tryz.zeroValue223 }
open Go.RowKit Go.Lib in
/-- math/bits.Mul: "Mul returns the full-width product of x and y": on a machine of 64 bits: Mul64's. (LAID: no walk: one application.) -/
theorem Tryz.bits_Mul (x y : Nat) (hx : x < 18446744073709551616) (hy : y < 18446744073709551616) (w : World) :
    Calls Tryz.prog 103 #[.int .u64 x, .int .u64 y] w fun e w' => e = .returned (.tuple #[.int .u64 ((x * y / 18446744073709551616 : Nat) : Int), .int .u64 ((x * y % 18446744073709551616 : Nat) : Int)]) ∧ w' = w := Any.bits_Mul Tryz.lays212 x y hx hy w
def Tryz.lays105_ren : Go.Shelf.Ren := ⟨fun | 105 => 46 | 212 => 103 | 99 => 104 | 165 => 105 | 166 => 106 | 170 => 107 | 169 => 108 | 263 => 152 | 264 => 153 | 206 => 154 | 240 => 155 | 241 => 156 | 276 => 181 | 277 => 182 | n => n, fun | 9 => 9 | 3 => 3 | 4 => 4 | 20 => 20 | 0 => 0 | 46 => 171 | 109 => 172 | 5 => 5 | 72 => 177 | 76 => 180 | 51 => 125 | 146 => 220 | 53 => 222 | 148 => 223 | 70 => 175 | 37 => 65 | 75 => 179 | 127 => 225 | 164 => 242 | 80 => 182 | n => n, fun | n => n⟩
theorem Tryz.lays105 : Go.Proofs.Lays.n105 Tryz.prog Tryz.lays105_ren := {
  mixed := by kernel_rfl
  f99 := Tryz.func104.trans (congrArg some (by kernel_rfl))
  f105 := Tryz.func46.trans (congrArg some (by kernel_rfl))
  f165 := Tryz.func105.trans (congrArg some (by kernel_rfl))
  f166 := Tryz.func106.trans (congrArg some (by kernel_rfl))
  f169 := Tryz.func108.trans (congrArg some (by kernel_rfl))
  f170 := Tryz.func107.trans (congrArg some (by kernel_rfl))
  f206 := Tryz.func154.trans (congrArg some (by kernel_rfl))
  f212 := Tryz.func103.trans (congrArg some (by kernel_rfl))
  f240 := Tryz.func155.trans (congrArg some (by kernel_rfl))
  f241 := Tryz.func156.trans (congrArg some (by kernel_rfl))
  f263 := Tryz.func152.trans (congrArg some (by kernel_rfl))
  f264 := Tryz.func153.trans (congrArg some (by kernel_rfl))
  f276 := Tryz.func181.trans (congrArg some (by kernel_rfl))
  f277 := Tryz.func182.trans (congrArg some (by kernel_rfl))
  t0 := Tryz.underlying0
  a0 := Tryz.isAgg0
  z0 := Tryz.sizeOf0
  v0 := Tryz.zeroValue0
  t3 := Tryz.underlying3
  a3 := Tryz.isAgg3
  z3 := Tryz.sizeOf3
  v3 := Tryz.zeroValue3
  t4 := Tryz.underlying4
  a4 := Tryz.isAgg4
  z4 := Tryz.sizeOf4
  v4 := Tryz.zeroValue4
  t5 := Tryz.underlying5
  a5 := Tryz.isAgg5
  z5 := Tryz.sizeOf5
  v5 := Tryz.zeroValue5
  t9 := Tryz.underlying9
  a9 := Tryz.isAgg9
  z9 := Tryz.sizeOf9
  v9 := Tryz.zeroValue9
  t20 := Tryz.underlying20
  a20 := Tryz.isAgg20
  z20 := Tryz.sizeOf20
  v20 := Tryz.zeroValue20
  t37 := Tryz.underlying65
  a37 := Tryz.isAgg65
  z37 := Tryz.sizeOf65
  v37 := Tryz.zeroValue65
  t46 := Tryz.underlying171
  a46 := Tryz.isAgg171
  z46 := Tryz.sizeOf171
  v46 := Tryz.zeroValue171
  t51 := Tryz.underlying125
  a51 := Tryz.isAgg125
  z51 := Tryz.sizeOf125
  v51 := Tryz.zeroValue125
  t53 := Tryz.underlying222
  a53 := Tryz.isAgg222
  z53 := Tryz.sizeOf222
  v53 := Tryz.zeroValue222
  t70 := Tryz.underlying175
  a70 := Tryz.isAgg175
  z70 := Tryz.sizeOf175
  v70 := Tryz.zeroValue175
  t72 := Tryz.underlying177
  a72 := Tryz.isAgg177
  z72 := Tryz.sizeOf177
  v72 := Tryz.zeroValue177
  t75 := Tryz.underlying179
  a75 := Tryz.isAgg179
  z75 := Tryz.sizeOf179
  v75 := Tryz.zeroValue179
  t76 := Tryz.underlying180
  a76 := Tryz.isAgg180
  z76 := Tryz.sizeOf180
  v76 := Tryz.zeroValue180
  t109 := Tryz.underlying172
  a109 := Tryz.isAgg172
  z109 := Tryz.sizeOf172
  v109 := Tryz.zeroValue172
  t127 := Tryz.underlying225
  a127 := Tryz.isAgg225
  z127 := Tryz.sizeOf225
  v127 := Tryz.zeroValue225
  t146 := Tryz.underlying220
  a146 := Tryz.isAgg220
  z146 := Tryz.sizeOf220
  v146 := Tryz.zeroValue220
  t148 := Tryz.underlying223
  a148 := Tryz.isAgg223
  z148 := Tryz.sizeOf223
  v148 := Tryz.zeroValue223
  t164 := Tryz.underlying242
  a164 := Tryz.isAgg242
  z164 := Tryz.sizeOf242
  v164 := Tryz.zeroValue242 }
theorem Tryz.Builder_Extra_105 : Builder.Extra Tryz.prog Tryz.lays105_ren := {
  sizeBuilder := by kernel_rfl
  liesBuilder := by kernel_rfl
  t5 := Tryz.underlying5
  a5 := Tryz.isAgg5
  z5 := Tryz.sizeOf5
  v5 := Tryz.zeroValue5
  infoByte := by kernel_rfl
  cellsByte := by kernel_rfl
  sizeByte := by kernel_rfl
  neB5 := by decide }
open Go.RowKit Go.Lib in
/-- THE MAIN CASE: at least two copies of a string that is not empty. (LAID: no walk: one application.) -/
theorem Tryz.strings_Repeat_main (s : ByteArray) (c : Nat) (w : World) (hc2 : 2 ≤ c) (hc : c ≤ 9223372036854775807) (hlen : s.size * c ≤ 140737488355328) (h0 : 0 < s.size) :
    Calls Tryz.prog 46 #[.string s, .int .i64 c] w fun e w' => e = .returned (.string ⟨(Lib.repeatL s.data.toList c).toArray⟩) ∧ Below w.heap.size w w' := Any.strings_Repeat_main Tryz.lays105 Tryz.Builder_Extra_105 s c w hc2 hc hlen h0
open Go.RowKit Go.Lib in
theorem Tryz.strings_Repeat_zero (s : ByteArray) (w : World) :
    Calls Tryz.prog 46 #[.string s, .int .i64 0] w fun e w' => e = .returned (.string ⟨#[]⟩) ∧ w' = w := Any.strings_Repeat_zero Tryz.lays105 s w
open Go.RowKit Go.Lib in
theorem Tryz.strings_Repeat_one (s : ByteArray) (w : World) :
    Calls Tryz.prog 46 #[.string s, .int .i64 1] w fun e w' => e = .returned (.string s) ∧ w' = w := Any.strings_Repeat_one Tryz.lays105 s w
open Go.RowKit Go.Lib in
/-- Copies of the empty string. (LAID: no walk: one application.) -/
theorem Tryz.strings_Repeat_empty (s : ByteArray) (c : Nat) (w : World) (hc2 : 2 ≤ c) (hc : c ≤ 9223372036854775807) (h0 : s.size = 0) :
    Calls Tryz.prog 46 #[.string s, .int .i64 c] w fun e w' => e = .returned (.string ⟨#[]⟩) ∧ w' = w := Any.strings_Repeat_empty Tryz.lays105 s c w hc2 hc h0
open Go.RowKit Go.Lib in
/-- count < 0: "It panics if count is negative". (LAID: no walk: one application.) -/
theorem Tryz.strings_Repeat_negative (s : ByteArray) (c : Int) (w : World) (hc : c < 0) :
    Calls Tryz.prog 46 #[.string s, .int .i64 c] w fun e w' => e = .panicked [{ v := repeatPanic Tryz.lays105_ren "strings: negative Repeat count", recovered := false }] ∧ w' = w := Any.strings_Repeat_negative Tryz.lays105 s c w hc
open Go.RowKit Go.Lib in
/-- len(s) * count is no int: ".. or if the result of (len(s) * count) overflows". (LAID: no walk: one application.) -/
theorem Tryz.strings_Repeat_overflow (s : ByteArray) (c : Nat) (w : World) (hc : c ≤ 9223372036854775807) (hs : s.size ≤ 9223372036854775807) (hbig : 9223372036854775807 < s.size * c) :
    Calls Tryz.prog 46 #[.string s, .int .i64 c] w fun e w' => e = .panicked [{ v := repeatPanic Tryz.lays105_ren "strings: Repeat output length overflow", recovered := false }] ∧ w' = w := Any.strings_Repeat_overflow Tryz.lays105 s c w hc hs hbig
open Go.RowKit Go.Lib in
/-- **strings.Repeat: count ≥ 0, the result within one allocation: count copies of s.** (LAID: no walk: one application.) -/
theorem Tryz.strings_Repeat (s : ByteArray) (c : Nat) (w : World) (hc : c ≤ 9223372036854775807) (hlen : s.size * c ≤ 140737488355328) :
    Calls Tryz.prog 46 #[.string s, .int .i64 c] w fun e w' => e = .returned (.string ⟨(Lib.repeatL s.data.toList c).toArray⟩) ∧ Below w.heap.size w w' := Any.strings_Repeat Tryz.lays105 Tryz.Builder_Extra_105 s c w hc hlen
def Tryz.laysNm216_ren : Go.Shelf.Ren := ⟨fun | 16 => 109 | n => n, fun | 24 => 58 | 9 => 9 | 4 => 4 | n => n, fun | n => n⟩
theorem Tryz.laysNm216 : Go.Proofs.Lays2.n16 Tryz.prog Tryz.laysNm216_ren := {
  mixed := by kernel_rfl
  f16 := Tryz.func109.trans (congrArg some (by kernel_rfl))
  t4 := Tryz.underlying4
  a4 := Tryz.isAgg4
  z4 := Tryz.sizeOf4
  v4 := Tryz.zeroValue4
  t9 := Tryz.underlying9
  a9 := Tryz.isAgg9
  z9 := Tryz.sizeOf9
  v9 := Tryz.zeroValue9
  t24 := Tryz.underlying58
  a24 := Tryz.isAgg58
  z24 := Tryz.sizeOf58
  v24 := Tryz.zeroValue58
  i9 := by kernel_rfl }
open Go.RowKit Go.Lib in
/-- slices.Clone at []string: "Clone returns a copy of the slice. The elements are copied using assignment, so this is a shallow clone. The result may have additional unused capacity. The result preserves the nilness of s.": OF A SLICE THAT IS NOT nil IT RETURNS A SLICE THAT IS NOT nil, OF THE SAME ELEMENTS, IN MEMORY OF THE CALL's OWN: in the how-to's words (6f): 'w'.ownsRow B e 1 v' n cells': v' begins at the head of a row among the blocks from B on (B: the heap's size at the call), not frozen, whose first cells are the elements · 'Below B w w'': below B all is as it was. The capacity is whatever the run-time gives. 'zs': what the cells behind the slice's address hold; 'zs.take n': its elements. (LAID: no walk: one application.) -/
theorem Tryz.slices_Clone_string (b off n c : Nat) (zs : List ByteArray) (w : World) (hz : n ≤ zs.length) (hbig : n * 16 ≤ 140737488355328) (hc : ∀ j, j < zs.length → w.cell? ⟨b, off + j, none⟩ = some (.string (zs.getD j ByteArray.empty))) :
    Calls Tryz.prog 109 #[.slice (some ⟨b, off, none⟩) n c] w fun e w' => ∃ v', e = .returned v' ∧ w'.ownsRow w.heap.size 9 1 v' n ((zs.take n).map (Value.string)) ∧ v' ≠ .slice none 0 0 ∧ Below w.heap.size w w' := Any.slices_Clone_string Tryz.laysNm216 b off n c zs w hz hbig hc
open Go.RowKit Go.Lib in
/-- The same at nil: nil comes back; the world is as it was. (LAID: no walk: one application.) -/
theorem Tryz.slices_Clone_string_nil (n c : Nat) (w : World) :
    Calls Tryz.prog 109 #[.slice none n c] w fun e w' => e = .returned (.slice none 0 0) ∧ w' = w := Any.slices_Clone_string_nil Tryz.laysNm216 n c w
open Go.RowKit Go.Lib in
/-- The same at a slice of length 0 that is not nil, WHATEVER ITS ADDRESS (no cell is asked for): a slice that is not nil and owns nothing comes back. (LAID: no walk: one application.) -/
theorem Tryz.slices_Clone_string_zero (a : Addr) (c : Nat) (w : World) :
    Calls Tryz.prog 109 #[.slice (some a) 0 c] w fun e w' => ∃ v', e = .returned v' ∧ w'.ownsRow w.heap.size 9 1 v' 0 [] ∧ v' ≠ .slice none 0 0 ∧ Below w.heap.size w w' := Any.slices_Clone_string_zero Tryz.laysNm216 a c w
end Go.Proofs.YtpcmifmgkccfnaaGreatDoor

namespace Go.Proofs.YtpcmifmgkccfnaaGreatDoor
open Go.RowKit
theorem rep_zero (c : Nat) : (⟨(Lib.repeatL (ByteArray.mk #[0]).data.toList c).toArray⟩ : ByteArray) = strOfNums (List.replicate c 0) := by
  have h : Lib.repeatL (ByteArray.mk #[0]).data.toList c = List.replicate c 0 := by
    have := Lib.repeatL_replicate 0 1 c
    rw [Nat.mul_one] at this
    exact this
  rw [h, strOfNums]
  simp
theorem rep_ok : RepOk := by
  intro c W hc
  have h := Tryz.strings_Repeat ⟨#[0]⟩ c W (by omega) (by show 1 * c ≤ _; omega)
  rw [rep_zero] at h
  exact h
end Go.Proofs.YtpcmifmgkccfnaaGreatDoor
