import Derived.Test.YtkkndlkelpdehaaGreatDoorMr23
import Derived.Test.YtkkndlkelpdehaaGreatDoorMr24
import Derived.Test.YtkkndlkelpdehaaGreatDoorMr05
import Derived.BigQuiet
namespace Go.Proofs.YtkkndlkelpdehaaGreatDoor
open Go.RowKit
theorem layP_app (l : List ByteArray) (a b : List (Nat × ByteArray)) : layP l (a ++ b) = layP (layP l a) b := by simp [layP]
theorem layP_skip (ps : List (Nat × ByteArray)) : ∀ (l : List ByteArray) (k : Nat), (∀ p ∈ ps, p.1 ≠ k) → (layP l ps).getD k ByteArray.empty = l.getD k ByteArray.empty := by
  induction ps with
  | nil => intro l k _; rfl
  | cons p r ih =>
    intro l k h
    show (layP (l.set p.1 p.2) r).getD k ByteArray.empty = _
    rw [ih _ k (fun q hq => h q (by simp [hq]))]
    exact getD_set_other l p.1 k p.2 (h p (by simp))
theorem layP_congr (ps : List (Nat × ByteArray)) : ∀ (l1 l2 : List ByteArray) (k : Nat), l1.length = l2.length → l1.getD k ByteArray.empty = l2.getD k ByteArray.empty → (layP l1 ps).getD k ByteArray.empty = (layP l2 ps).getD k ByteArray.empty := by
  induction ps with
  | nil => intro l1 l2 k _ h; exact h
  | cons p r ih =>
    intro l1 l2 k hl h
    refine ih _ _ k (by simp [hl]) ?_
    by_cases e : p.1 = k
    · subst e
      by_cases hk : p.1 < l1.length
      · rw [getD_set_same _ _ _ hk, getD_set_same _ _ _ (by omega)]
      · rw [List.getD_eq_getElem?_getD, List.getD_eq_getElem?_getD, List.getElem?_eq_none (by simp; omega), List.getElem?_eq_none (by simp; omega)]
    · rw [getD_set_other _ _ _ _ e, getD_set_other _ _ _ _ e]; exact h
theorem natW_app (a b : List Wr1) : natW (a ++ b) = natW a ++ natW b := by simp [natW]
/-- Behind a commit each free sector is what the list says. -/
theorem com_free (L : List ByteArray) (nx : Nat) (l : List Wr1) (hl : l.length ≤ 16) (k : Nat) (hk : 19 ≤ k) : (comL L nx l).getD k ByteArray.empty = (layP L (natW l)).getD k ByteArray.empty := by
  unfold comL
  rw [layP_skip [(1, headB nx [])] _ k (by intro p hp; simp at hp; subst hp; show 1 ≠ k; omega)]
  rw [filled, natW_app, layP_app, layP_skip (natW (List.replicate (16 - l.length) fillW)) _ k (by
    intro p hp
    obtain ⟨x, hx, rfl⟩ := List.mem_map.1 hp
    have := List.eq_of_mem_replicate hx
    subst this
    show 18 ≠ k
    omega)]
  refine layP_congr _ _ _ k (by simp only [layP_len]) ?_
  rw [layP_skip [(1, _)] _ k (by intro p hp; simp at hp; subst hp; show 1 ≠ k; omega), layP_skip _ _ k (by
    intro p hp
    obtain ⟨x, hx, rfl⟩ := List.mem_map.1 hp
    obtain ⟨i, hi, rfl⟩ := List.mem_map.1 hx
    have hi : i < (l ++ List.replicate (16 - l.length) fillW).length := List.mem_range.1 hi
    simp at hi
    show 2 + i ≠ k
    omega)]
theorem com_head (L : List ByteArray) (nx : Nat) (l : List Wr1) (hL : 1 < L.length) : (comL L nx l).getD 1 ByteArray.empty = headB nx [] := by
  unfold comL
  show ((layP _ (natW (filled l))).set 1 (headB nx [])).getD 1 ByteArray.empty = _
  exact getD_set_same _ 1 _ (by simp only [layP_len]; exact hL)
/-- A disk and its journal, made behind w0. -/
def JI (w0 w : World) (b jb : Nat) (s : DSt) (nx : Nat) (lost : Bool) : Prop :=
  ∃ v, Dk w w0.heap.size b v s ∧ Jb w jb b nx lost ∧ ¬ Fd b v jb ∧ w0.heap.size ≤ jb ∧ Below w0.heap.size w0 w ∧ Sane s
theorem JI.di {w0 w : World} {b jb : Nat} {s : DSt} {nx : Nat} {lost : Bool} (h : JI w0 w b jb s nx lost) : DI w0 w b s := by
  obtain ⟨v, h1, h2, h3, h4, h5, h6⟩ := h
  exact ⟨v, h1, h5, h6⟩
theorem JI.bel {w0 w : World} {b jb : Nat} {s : DSt} {nx : Nat} {lost : Bool} (h : JI w0 w b jb s nx lost) : Below w0.heap.size w0 w := h.di.bel
theorem JI.below {w0 w w' : World} {b jb : Nat} {s : DSt} {nx : Nat} {lost : Bool} (h : JI w0 w b jb s nx lost) (hb : Below w.heap.size w w') : JI w0 w' b jb s nx lost := by
  obtain ⟨v, h1, h2, h3, h4, h5, h6⟩ := h
  exact ⟨v, h1.below hb, Blk.below h2 hb (Blk.lt h2), h3, h4, h5.trans (hb.mono h5.size), h6⟩
theorem JI.dpost {w0 w w' : World} {b jb : Nat} {v : DV} {s s' : DSt} {nx : Nat} {lost : Bool} (h1 : Dk w w0.heap.size b v s) (h2 : Jb w jb b nx lost) (h3 : ¬ Fd b v jb) (h4 : w0.heap.size ≤ jb) (h5 : Below w0.heap.size w0 w) (hs : Sane s') (hP : DPost w0.heap.size b v s' w w') : JI w0 w' b jb s' nx lost := by
  obtain ⟨v', k1, k2, k3⟩ := hP
  refine ⟨v', k1, Blk.only h2 k2 h3, fun q => ?_, h4, DI.only h1 h5 k2, hs⟩
  rcases k3 jb q with r | r
  · exact h3 r
  · have := Blk.lt h2; omega
theorem runs_sane (R : List (List Wr1)) : ∀ s, Sane s → Sane (runsR s R).2 := by
  induction R with
  | nil => intro s h; exact h
  | cons r R ih =>
    intro s h
    unfold runsR
    split
    · exact ih _ (layR_sane r s h)
    · exact layR_sane r s h
theorem commit_sane (s : DSt) (nx : Nat) (lost : Bool) (l : List Wr1) (h : Sane s) : Sane (commitR s nx lost l).s := by
  unfold commitR
  split
  · exact h
  · split
    · exact h
    · split
      · exact runs_sane _ s h
      · exact runs_sane _ s h
theorem commitJ {w0 w : World} {b jb : Nat} {s : DSt} {nx : Nat} {lost : Bool} (h : JI w0 w b jb s nx lost) (hnx : nx < 4294967296) (p : Option Addr) (c : Nat) (l : List Wr1) (n : Nat) (hn : n = l.length) (hl : Wls w p l) (hp : s.pend.length ≤ 1000000) (ha : s.acts.length ≤ 100000000) :
    Calls Tryz.prog 26 #[.pointer (some ⟨jb, 0, none⟩), .slice p n c] w fun e w' => e = .returned (.int .i64 (commitR s nx lost l).e) ∧ JI w0 w' b jb (commitR s nx lost l).s (commitR s nx lost l).nx (commitR s nx lost l).lost := by
  obtain ⟨v, h1, h2, h3, h4, h5, h6⟩ := h
  refine (commit_any w _ b jb nx v s lost h1 h2 h3 h5.size h6 hnx p c l n hn hl hp ha).mono ?_
  rintro ev w' ⟨rfl, v', k1, k2, k3, k4⟩
  refine ⟨rfl, v', k1, k2, fun q => ?_, h4, h5.trans (k3.below h5.size (fun k hk q => ?_)), commit_sane s nx lost l h6⟩
  · rcases k4 jb q with r | r
    · exact h3 r
    · have := Blk.lt h2; omega
  · rcases q with q | q
    · have := (h1.fd k q).1; omega
    · omega
/-- A disk with a journal that is opened. -/
def L0 : List ByteArray := (List.replicate 128 zero256).set 1 (headB 0 [])
theorem L0_len : L0.length = 128 := by simp [L0]
def A0 : List (Nat × Nat) := [(0, 1), (1, 0)]
theorem fresh_rs (L : List ByteArray) : freshS L = rs L [] := rfl
theorem format_rs : layR (freshS (List.replicate 128 zero256)) [(1, headB 0 [])] = (0, rs L0 A0) := by
  rw [fresh_rs, lay_rs _ _ _ (head_ok _ (by rw [List.length_replicate]; decide) 0 [] (by simp))]
  rfl
theorem head0 : L0.getD 1 ByteArray.empty = headB 0 [] := getD_set_same _ 1 _ (by rw [List.length_replicate]; decide)
theorem read_rs (L : List ByteArray) (A : List (Nat × Nat)) (j : Nat) (hj : j < L.length) : readE (rs L A) (j : Int) = 0 ∧ readT (rs L A) (j : Int) = L.getD j ByteArray.empty := readA (s := rs L A) ⟨rfl, rfl⟩ j hj
/-- Open of a disk whose head is clear. -/
theorem open_clear {w : World} {base b : Nat} {v : DV} {L : List ByteArray} {A : List (Nat × Nat)} (h : Dk w base b v (rs L A)) (hg : ETy w) (hb : base ≤ w.heap.size) (hS : Sane (rs L A)) (n : Nat) (hn : n < 4294967296) (hL : 1 < L.length) (hh : L.getD 1 ByteArray.empty = headB n []) (ha : A.length ≤ 10000000) :
    Calls Tryz.prog 41 #[.pointer (some ⟨b, 0, none⟩)] w fun e w' => ∃ jb, e = .returned (.tuple #[.pointer (some ⟨jb, 0, none⟩), .bool false, .int .i64 0]) ∧ JNew base b v (rs L A) jb ((n + 1) % 4294967296) w w' := by
  obtain ⟨r1, r2⟩ := read_rs L A 1 hL
  rw [show ((1 : Nat) : Int) = 1 from rfl] at r1 r2
  have ht : (readT (rs L A) 1).size ≤ 9223372036854775807 := by rw [r2, hh, headB_size n [] (by simp)]; decide
  refine (open_any w base b v (rs L A) h hg hb hS ht (Nat.zero_le _) ha).mono ?_
  intro e w' hP
  rcases hP with ⟨q, _⟩ | ⟨_, n', H, ok, hn', hR, hc⟩
  · exact absurd r1 q
  · rw [r2, hh] at hR
    obtain ⟨e1, e2, e3⟩ := rhp_clear n hn _ _ _ _ hR
    have e1' : n' = n := by omega
    subst e1' e2 e3
    rcases hc with ⟨q, _⟩ | ⟨_, _, q⟩ | ⟨_, q, _⟩ | ⟨_, q, _⟩
    · cases q
    · exact q
    · simp at q
    · simp at q
theorem JNew.ji {w0 w w' : World} {b jb nx : Nat} {v : DV} {s s' : DSt} (h1 : Dk w w0.heap.size b v s) (h5 : Below w0.heap.size w0 w) (hs : Sane s') (h : JNew w0.heap.size b v s' jb nx w w') : JI w0 w' b jb s' nx false := by
  obtain ⟨v', k1, k2, k3, k4, k5, k6⟩ := h
  exact ⟨v', k1, k2, k3, by have := h5.size; omega, DI.only h1 h5 k5, hs⟩
def aB : ByteArray := shapB ⟨#[97]⟩
theorem aB_ne : aB ≠ zero256 := fun h => by
  have h1 : nums (strOfNums (shapP (nums ⟨#[97]⟩) 256)) = nums (strOfNums (List.replicate 256 0)) := by rw [← zero_nums]; exact congrArg nums h
  rw [nums_strOfNums _ (shapP_bytes (nums ⟨#[97]⟩) 256), nums_strOfNums _ (bytes_of (l := List.replicate 256 0) (fun x hx => by have := List.eq_of_mem_replicate hx; omega))] at h1
  have h2 : (shapP (nums ⟨#[97]⟩) 256).getD 0 0 = (List.replicate 256 (0 : Int)).getD 0 0 := by rw [h1]
  rw [shapP_getD _ 256 0 (by decide) (by decide)] at h2
  have e : nums ⟨#[97]⟩ = [97] := rfl
  have e2 : (List.replicate 256 (0 : Int)).getD 0 0 = 0 := rfl
  rw [e, e2] at h2
  exact absurd h2 (by decide)
theorem aW_good : GoodL [(20, aB)] := ⟨by simp, fun x hx => by simp at hx; subst hx; exact ⟨by decide, by decide⟩, by simp [secs], fun x hx => by simp at hx; subst hx; exact shapB_size _⟩
theorem comA_len (l : List Wr1) (h : l.length ≤ 16) : (comA l).length = 38 := by
  have := filled_len l h
  simp [comA, actW, recL_len, this]
end Go.Proofs.YtkkndlkelpdehaaGreatDoor

namespace Go.Proofs.YtkkndlkelpdehaaGreatDoor
open Go.RowKit
/-- Writes to be made: the sectors that the raw numbers speak of, and marked texts. -/
def wlist (off : Int) (l : List Int) : List (Nat × ByteArray) := (List.range l.length).map (fun j : Nat => (pickP (l.getD j 0) 128, sectorB (off + (j : Int))))
theorem wlist_len (off : Int) (l : List Int) : (wlist off l).length = l.length := by simp [wlist]
theorem wlist_take (off : Int) (l : List Int) (k : Nat) (hk : k < l.length) : (wlist off l).take (k + 1) = (wlist off l).take k ++ [(pickP (l.getD k 0) 128, sectorB (off + (k : Int)))] := by
  rw [List.take_succ_eq_append_getElem (by rw [wlist_len]; exact hk)]
  simp [wlist]
def wacts (P : List (Nat × ByteArray)) : List (Nat × Nat) := P.map (fun p => (0, p.1))
/-- A disk that lives, with these pending writes. -/
def stW (L : List ByteArray) (P : List (Nat × ByteArray)) (A : List (Nat × Nat)) : DSt := ⟨L, layP L P, P, A ++ wacts P, 0, false⟩
theorem stW_write (L : List ByteArray) (P : List (Nat × ByteArray)) (A : List (Nat × Nat)) (j : Nat) (hj : j < L.length) (t : ByteArray) (ht : t.size = 256) : writeE (stW L P A) (j : Int) t = 0 ∧ writeS (stW L P A) (j : Int) t = stW L (P ++ [(j, t)]) A := by
  obtain ⟨h1, h2⟩ := writeA (s := stW L P A) ⟨rfl, rfl⟩ j hj t ht
  refine ⟨h1, h2.trans ?_⟩
  simp [stW, layP_snoc, wacts]
theorem stW_flush (L : List ByteArray) (P : List (Nat × ByteArray)) (A : List (Nat × Nat)) : flushE (stW L P A) = 0 ∧ flushS (stW L P A) = stW (layP L P) [] (A ++ wacts P ++ [(1, 0)]) := by
  obtain ⟨h1, h2⟩ := flushA (s := stW L P A) ⟨rfl, rfl⟩
  refine ⟨h1, h2.trans ?_⟩
  simp [stW, wacts, layP]
def zeros : List ByteArray := List.replicate 128 zero256
theorem zeros_len : zeros.length = 128 := by rw [zeros, List.length_replicate]
def baseL (l1 : List Int) : List ByteArray := layP zeros (wlist 0 l1)
theorem baseL_len (l1 : List Int) : (baseL l1).length = 128 := by rw [baseL, layP_len, zeros_len]
def filledS (l1 l2 : List Int) : DSt := stW (baseL l1) (wlist 1000 l2) (wacts (wlist 0 l1) ++ [(1, 0)])
end Go.Proofs.YtkkndlkelpdehaaGreatDoor

namespace Go.Proofs.YtkkndlkelpdehaaGreatDoor
open Go.RowKit
theorem Strs.own {w : World} {base : Nat} {v : Value} {l : List ByteArray} (h : w.ownsRow base 9 1 v l.length (strs l)) : ∃ p c, v = .slice p l.length c ∧ Strs w p l := by
  rcases h.2 with ⟨h1, h2⟩ | ⟨g, cap, cur, h1, hb, hg, _⟩
  · refine ⟨none, 0, by rw [h1, h2], fun j hj => ?_⟩
    omega
  · refine ⟨some ⟨g, 0, none⟩, cap, h1, fun j hj => ⟨g, 0, rfl, Blk.lt hg, ?_⟩⟩
    rw [Nat.zero_add, (own_at h (by rw [h1]; rfl) j hj).1]
    exact strs_at _ _ hj
def StrsB (B : Nat) (w : World) (p : Option Addr) (l : List ByteArray) : Prop := ∀ j, j < l.length → ∃ g o, p = some ⟨g, o, none⟩ ∧ B ≤ g ∧ g < w.heap.size ∧ w.cell? ⟨g, o + j, none⟩ = some (.string (l.getD j ByteArray.empty))
theorem Strs.ownB {w : World} {base : Nat} {v : Value} {l : List ByteArray} (h : w.ownsRow base 9 1 v l.length (strs l)) : ∃ p c, v = .slice p l.length c ∧ StrsB base w p l := by
  rcases h.2 with ⟨h1, h2⟩ | ⟨g, cap, cur, h1, hb, hg, _⟩
  · refine ⟨none, 0, by rw [h1, h2], fun j hj => ?_⟩
    omega
  · refine ⟨some ⟨g, 0, none⟩, cap, h1, fun j hj => ⟨g, 0, rfl, hb, Blk.lt hg, ?_⟩⟩
    rw [Nat.zero_add, (own_at h (by rw [h1]; rfl) j hj).1]
    exact strs_at _ _ hj
theorem Strs.below {w w' : World} {p : Option Addr} {l : List ByteArray} (h : Strs w p l) (hb : Below w.heap.size w w') : Strs w' p l := fun j hj => by
  obtain ⟨g, o, h1, h2, h3⟩ := h j hj
  exact ⟨g, o, h1, Nat.lt_of_lt_of_le h2 hb.size, (hb.cell (p := ⟨g, o + j, none⟩) h2).trans h3⟩
theorem readB {s : DSt} (h : s.dead = false) (j : Nat) (hj : j < s.last.length) : readE s (j : Int) = 0 ∧ readT s (j : Int) = s.now.getD j ByteArray.empty := by
  have hi : isOk s (j : Int) := ⟨by omega, by omega⟩
  have hd : ¬ s.dead = true := by rw [h]; decide
  rw [readE, readT, if_pos hi, if_pos hi, if_neg hd, if_neg hd, Int.toNat_natCast]
  exact ⟨rfl, rfl⟩
theorem infoS2 : (Tryz.prog.info? 9).map (fun i => (i.zero, i.size, i.bytes)) = some (some (.string ⟨#[]⟩), 1, 16) := by kernel_rfl
def AlI (w : World) (l : List ByteArray) (k : Nat) (u : Value) (wr : World) : Prop := wr.ownsRow w.heap.size 9 1 u k (strs (l.take k)) ∧ Below w.heap.size w wr
theorem wpList_appAl (W : World) {ops : Array Oper} {rest : List Oper} {o : Oper} {a : Act} {Q : Exit → Act → World → Prop}
    (hg : o.guard = none) (s x : Operand) (hop : o.op = Op.call { callee := Callee.builtin Builtin.append, args := #[s, x], argTypes := #[73, 73] })
    {w : World} {l : List ByteArray} {k : Nat} {u : Value} (hP : AlI w l k u W) (hs : a.eval s = u) (hk : k < l.length)
    (g : Nat) (hx : a.eval x = .slice (some ⟨g, 0, none⟩) 1 1) (hc : W.cell? ⟨g, 0, none⟩ = some (.string (l.getD k ByteArray.empty))) (hsz : k < 100000)
    (h : ∀ v' W', AlI w l (k + 1) v' W' → wpList Tryz.prog ops Q rest (a.put o.dst v') W') : wpList Tryz.prog ops Q (o :: rest) a W := by
  obtain ⟨i0, hi, hz0, hz1, hz2⟩ := info_parts infoS2
  refine wpList_append_own W hg s x 73 hop w.heap.size 9 i0 (.string ⟨#[]⟩) 1 16 Tryz.underlying73 hi hz0 hz1 hz2 rfl (by decide) u k (strs (l.take k)) hs hP.1 ⟨g, 0, none⟩ 1 1 [.string (l.getD k ByteArray.empty)] hx rfl (fun q u hu => ?_) (by simp [Value.oneCell']) (by unfold maxLen; omega) (by omega) hP.2.size (fun v' W' ho hgr _ => ?_)
  · cases q with
    | zero => simp at hu; subst hu; rw [Addr.add_mid]; simpa using hc
    | succ q => simp at hu
  · refine h v' W' ⟨?_, hP.2.grown hgr hP.2.size (fun q hq => (hP.1.lt q hq).1)⟩
    have e : strs (l.take (k + 1)) = strs (l.take k) ++ [.string (l.getD k ByteArray.empty)] := by
      rw [List.take_succ_eq_append_getElem hk, show l.getD k ByteArray.empty = l[k] by simp [hk]]
      simp only [strs, List.map_append, List.map_cons, List.map_nil]
    rw [e]
    exact ho
theorem Dk.base {w : World} {B B' b : Nat} {v : DV} {s : DSt} (h : Dk w B b v s) (hb : B' ≤ B) : Dk w B' b v s :=
  ⟨h.blk, owns_base h.rl hb, owns_base h.rn hb, owns_base h.rp hb, owns_base h.ra hb, h.ne, Nat.le_trans hb h.lo⟩
end Go.Proofs.YtkkndlkelpdehaaGreatDoor

namespace Go.Proofs.YtkkndlkelpdehaaGreatDoor
open Go.RowKit
def LaI (w : World) (l : List ByteArray) (W : List Wr1) (k : Nat) (wr : World) : Prop := Blk wr w.heap.size (strs (layP l (natW (W.take k)))).toArray 9 ∧ Below w.heap.size w wr
theorem LaI.step {w wr : World} {l : List ByteArray} {W : List Wr1} {k j : Nat} {t : ByteArray} (h : LaI w l W k wr) (hk : k < W.length) (hj : (W.getD k wr0).1 = (j : Int)) (ht : (W.getD k wr0).2 = t) : LaI w l W (k + 1) (wr.drew.setCell ⟨w.heap.size, j, none⟩ (.string t)) := by
  refine ⟨?_, h.2.drew.setCell (Nat.le_refl _) _⟩
  have e1 : W.take (k + 1) = W.take k ++ [W.getD k wr0] := by
    rw [List.take_succ_eq_append_getElem hk]
    simp [List.getD_eq_getElem?_getD, hk]
  have e2 : natW [W.getD k wr0] = [(j, t)] := by
    show [((W.getD k wr0).1.toNat, (W.getD k wr0).2)] = _
    rw [hj, ht, Int.toNat_natCast]
  have := Blk.set (show Blk wr.drew w.heap.size _ 9 from h.1) j (.string t)
  have e : (strs (layP l (natW (W.take k)))).toArray.setIfInBounds j (.string t) = (strs (layP l (natW (W.take (k + 1))))).toArray := by
    rw [e1, natW_app, e2, layP_snoc, ← strs_set]
    simp
  rw [e] at this
  exact this
def freeQ (l m : List ByteArray) : Prop := ∀ k, 19 ≤ k → k < l.length → l.getD k ByteArray.empty = m.getD k ByteArray.empty
def freeB (l m : List ByteArray) : Bool := (List.range l.length).all fun k => decide (k < 19) || decide (l.getD k ByteArray.empty = m.getD k ByteArray.empty)
theorem freeB_iff (l m : List ByteArray) : freeB l m = true ↔ freeQ l m := by
  unfold freeB freeQ
  rw [List.all_eq_true]
  constructor
  · intro h k h1 h2
    have := h k (List.mem_range.2 h2)
    rcases Bool.or_eq_true _ _ |>.mp this with q | q
    · exact absurd (of_decide_eq_true q) (by omega)
    · exact of_decide_eq_true q
  · intro h k hk
    have hk' := List.mem_range.1 hk
    by_cases q : k < 19
    · rw [decide_eq_true q, Bool.true_or]
    · rw [decide_eq_true (h k (by omega) hk'), Bool.or_true]
theorem freeB_true {l m : List ByteArray} (h : freeQ l m) : freeB l m = true := (freeB_iff l m).2 h
theorem freeB_false {l m : List ByteArray} (h : ¬ freeQ l m) : freeB l m = false := by
  cases q : freeB l m with
  | false => rfl
  | true => exact absurd ((freeB_iff l m).1 q) h
theorem str_neJ {a b : ByteArray} (h : ¬ a = b) : (a.toList == b.toList) = false := by
  by_cases q : a.toList == b.toList
  · exact absurd (by
      have := eq_of_beq q
      rw [ByteArray.toList_eq, ByteArray.toList_eq] at this
      exact WideShapes.bytes_inj this) h
  · simpa using q
def FrI (l m : List ByteArray) (k : Nat) : Prop := ∀ j, 19 ≤ j → j < k → l.getD j ByteArray.empty = m.getD j ByteArray.empty
end Go.Proofs.YtkkndlkelpdehaaGreatDoor

namespace Go.Proofs.YtkkndlkelpdehaaGreatDoor
open Go.RowKit
/-- A disk and its journal, made behind w0, and a fence: blocks that belong to neither. -/
def JK (w0 w : World) (b jb : Nat) (s : DSt) (nx : Nat) (lost : Bool) (X : Nat → Prop) : Prop :=
  ∃ v, Dk w w0.heap.size b v s ∧ Jb w jb b nx lost ∧ ¬ Fd b v jb ∧ w0.heap.size ≤ jb ∧ Below w0.heap.size w0 w ∧ Sane s ∧ ∀ x, X x → ¬ Fd b v x ∧ x ≠ jb ∧ x < w.heap.size
theorem JK.ji {w0 w : World} {b jb : Nat} {s : DSt} {nx : Nat} {lost : Bool} {X : Nat → Prop} (h : JK w0 w b jb s nx lost X) : JI w0 w b jb s nx lost := by
  obtain ⟨v, h1, h2, h3, h4, h5, h6, _⟩ := h
  exact ⟨v, h1, h2, h3, h4, h5, h6⟩
theorem JI.jk {w0 w : World} {b jb : Nat} {s : DSt} {nx : Nat} {lost : Bool} (h : JI w0 w b jb s nx lost) : JK w0 w b jb s nx lost (fun _ => False) := by
  obtain ⟨v, h1, h2, h3, h4, h5, h6⟩ := h
  exact ⟨v, h1, h2, h3, h4, h5, h6, fun _ q => q.elim⟩
theorem JK.bel {w0 w : World} {b jb : Nat} {s : DSt} {nx : Nat} {lost : Bool} {X : Nat → Prop} (h : JK w0 w b jb s nx lost X) : Below w0.heap.size w0 w := h.ji.bel
theorem JK.jb {w0 w : World} {b jb : Nat} {s : DSt} {nx : Nat} {lost : Bool} {X : Nat → Prop} (h : JK w0 w b jb s nx lost X) : Jb w jb b nx lost := by
  obtain ⟨v, h1, h2, _⟩ := h
  exact h2
theorem JK.more {w0 w w' : World} {b jb : Nat} {s : DSt} {nx : Nat} {lost : Bool} {X : Nat → Prop} (h : JK w0 w b jb s nx lost X) (hb : Below w.heap.size w w') (Y : Nat → Prop) (hy : ∀ x, Y x → X x ∨ (w.heap.size ≤ x ∧ x < w'.heap.size)) : JK w0 w' b jb s nx lost Y := by
  obtain ⟨v, h1, h2, h3, h4, h5, h6, h7⟩ := h
  refine ⟨v, h1.below hb, Blk.below h2 hb (Blk.lt h2), h3, h4, h5.trans (hb.mono h5.size), h6, fun x hx => ?_⟩
  rcases hy x hx with q | ⟨q1, q2⟩
  · obtain ⟨a1, a2, a3⟩ := h7 x q
    exact ⟨a1, a2, Nat.lt_of_lt_of_le a3 hb.size⟩
  · refine ⟨fun q => ?_, fun q => ?_, q2⟩
    · have := (h1.fd x q).2; omega
    · have := Blk.lt h2; omega
theorem JK.below {w0 w w' : World} {b jb : Nat} {s : DSt} {nx : Nat} {lost : Bool} {X : Nat → Prop} (h : JK w0 w b jb s nx lost X) (hb : Below w.heap.size w w') : JK w0 w' b jb s nx lost X := h.more hb X (fun _ q => .inl q)
theorem JK.less {w0 w : World} {b jb : Nat} {s : DSt} {nx : Nat} {lost : Bool} {X : Nat → Prop} (h : JK w0 w b jb s nx lost X) (Y : Nat → Prop) (hy : ∀ x, Y x → X x) : JK w0 w b jb s nx lost Y := h.more (Below.refl _ _) Y (fun x q => .inl (hy x q))
theorem JK.lt {w0 w : World} {b jb : Nat} {s : DSt} {nx : Nat} {lost : Bool} {X : Nat → Prop} (h : JK w0 w b jb s nx lost X) (x : Nat) (hx : X x) : x < w.heap.size := by
  obtain ⟨v, h1, h2, h3, h4, h5, h6, h7⟩ := h
  exact (h7 x hx).2.2
theorem Strs.fence {w w' : World} {p : Option Addr} {l : List ByteArray} {X : Nat → Prop} (h : Strs w p l) (ho : Only (fun x => ¬ X x) w w') (hp : ∀ g o, p = some ⟨g, o, none⟩ → X g) : Strs w' p l := fun j hj => by
  obtain ⟨g, o, e, h1, h2⟩ := h j hj
  have q := ho.2 g h1 (fun r => r (hp g o e))
  exact ⟨g, o, e, Nat.lt_of_lt_of_le h1 ho.size, (World.cell?_of_block (a := ⟨g, o + j, none⟩) q).trans h2⟩
theorem Wls.fence {w w' : World} {p : Option Addr} {l : List Wr1} {X : Nat → Prop} (h : Wls w p l) (ho : Only (fun x => ¬ X x) w w') (hp : ∀ g o, p = some ⟨g, o, none⟩ → X g) : Wls w' p l := h.only ho (fun g o e r => r (hp g o e))
theorem Only.widen {P Q : Nat → Prop} {w w' : World} (h : Only P w w') (hq : ∀ k, k < w.heap.size → P k → Q k) : Only Q w w' := ⟨h.1, fun k hk hn => h.2 k hk (fun q => hn (hq k hk q))⟩
theorem commitK {w0 w : World} {b jb : Nat} {s : DSt} {nx : Nat} {lost : Bool} {X : Nat → Prop} (h : JK w0 w b jb s nx lost X) (hnx : nx < 4294967296) (p : Option Addr) (c : Nat) (l : List Wr1) (n : Nat) (hn : n = l.length) (hl : Wls w p l) (hp : s.pend.length ≤ 1000000) (ha : s.acts.length ≤ 100000000) :
    Calls Tryz.prog 26 #[.pointer (some ⟨jb, 0, none⟩), .slice p n c] w fun e w' => e = .returned (.int .i64 (commitR s nx lost l).e) ∧ JK w0 w' b jb (commitR s nx lost l).s (commitR s nx lost l).nx (commitR s nx lost l).lost X ∧ Only (fun x => ¬ X x) w w' := by
  obtain ⟨v, h1, h2, h3, h4, h5, h6, h7⟩ := h
  refine (commit_any w _ b jb nx v s lost h1 h2 h3 h5.size h6 hnx p c l n hn hl hp ha).mono ?_
  rintro ev w' ⟨rfl, v', k1, k2, k3, k4⟩
  refine ⟨rfl, ⟨v', k1, k2, fun q => ?_, h4, h5.trans (k3.below h5.size (fun k hk q => ?_)), commit_sane s nx lost l h6, fun x hx => ?_⟩, k3.widen (fun k hk q r => ?_)⟩
  · rcases k4 jb q with r | r
    · exact h3 r
    · have := Blk.lt h2; omega
  · rcases q with q | q
    · have := (h1.fd k q).1; omega
    · omega
  · obtain ⟨a1, a2, a3⟩ := h7 x hx
    refine ⟨fun q => ?_, a2, Nat.lt_of_lt_of_le a3 k3.size⟩
    rcases k4 x q with r | r
    · exact a1 r
    · omega
  · obtain ⟨a1, a2, a3⟩ := h7 k r
    rcases q with q | q
    · exact a1 q
    · exact a2 q
theorem Dk.lower {w : World} {base base0 b : Nat} {v : DV} {s : DSt} (g1 : Dk w base b v s) (h : base0 ≤ base) : Dk w base0 b v s :=
  ⟨g1.blk, owns_base g1.rl h, owns_base g1.rn h, owns_base g1.rp h, owns_base g1.ra h, g1.ne, Nat.le_trans h g1.lo⟩
/-- Open of a disk that was loaded, with a clear head. -/
theorem openK {w0 w : World} {base b : Nat} {v : DV} {L : List ByteArray} {X : Nat → Prop} (h : Dk w base b v (rs L [])) (h0 : w0.heap.size ≤ base) (hb : base ≤ w.heap.size) (hB : Below w0.heap.size w0 w) (hX : ∀ x, X x → x < base) (hg : ETy w) (hS : Sane (rs L [])) (n : Nat) (hn : n < 4294967296) (hL : 1 < L.length) (hh : L.getD 1 ByteArray.empty = headB n []) :
    Calls Tryz.prog 41 #[.pointer (some ⟨b, 0, none⟩)] w fun e w' => ∃ jb, e = .returned (.tuple #[.pointer (some ⟨jb, 0, none⟩), .bool false, .int .i64 0]) ∧ JK w0 w' b jb (rs L []) ((n + 1) % 4294967296) false X ∧ Only (fun x => ¬ X x) w w' := by
  refine (open_clear (h.lower h0) hg hB.size hS n hn hL hh (by simp)).mono ?_
  rintro e w' ⟨jb, rfl, v', k1, k2, k3, k4, k5, k6⟩
  have hf : ∀ x, X x → ¬ Fd b v x := fun x hx q => by have := (h.fd x q).1; have := hX x hx; omega
  refine ⟨jb, rfl, ⟨v', k1, k2, k3, Nat.le_trans hB.size k4, DI.only (h.lower h0) hB k5, hS, fun x hx => ⟨fun q => ?_, ?_, ?_⟩⟩, k5.widen (fun k _ q r => hf k r q)⟩
  · rcases k6 x q with r | r
    · exact hf x hx r
    · have := hX x hx; omega
  · have := hX x hx; omega
  · have := hX x hx
    have := k5.size
    omega
/-- Lists of lists of writes that were handed in. -/
def Wll (w : World) (p : Option Addr) (ls : List (List Wr1)) : Prop := ∀ i, i < ls.length → ∃ g o q c, p = some ⟨g, o, none⟩ ∧ g < w.heap.size ∧ w.cell? ⟨g, o + i, none⟩ = some (.slice q (ls.getD i []).length c) ∧ Wls w q (ls.getD i []) ∧ Wok (ls.getD i []) ∧ (ls.getD i []).length ≤ 9223372036854775807
theorem layP_size (ps : List (Nat × ByteArray)) : ∀ (l : List ByteArray), (∀ t ∈ l, t.size = 256) → (∀ p ∈ ps, p.2.size = 256) → ∀ t ∈ layP l ps, t.size = 256 := by
  induction ps with
  | nil => intro l h _; exact h
  | cons p r ih =>
    intro l h hp
    refine ih _ (fun t ht => ?_) (fun q hq => hp q (by simp [hq]))
    rcases List.mem_or_eq_of_mem_set ht with q | q
    · exact h t q
    · rw [q]; exact hp p (by simp)
theorem natW_size {N : Nat} {l : List Wr1} (h : OkW N l) : ∀ p ∈ natW l, p.2.size = 256 := fun p hp => by
  obtain ⟨x, hx, rfl⟩ := List.mem_map.1 hp
  exact (h x hx).2.2
theorem com_size (L : List ByteArray) (nx : Nat) (l : List Wr1) (hl : GoodL l) (h : ∀ t ∈ L, t.size = 256) : ∀ t ∈ comL L nx l, t.size = 256 := by
  have h1 : ∀ H : List Int, H.length ≤ 60 → ∀ p ∈ ([(1, headB nx H)] : List (Nat × ByteArray)), p.2.size = 256 := fun H hH p hp => by
    simp at hp; subst hp; exact headB_size nx H hH
  unfold comL
  refine layP_size _ _ (layP_size _ _ (layP_size _ _ (layP_size _ _ h (natW_size (rec_ok l hl))) (h1 _ (by rw [secs16 l hl]; decide))) (natW_size (fill_ok l hl))) (h1 _ (by simp))
theorem com_freeQ (L M : List ByteArray) (nx : Nat) (l : List Wr1) (hl : l.length ≤ 16) (hL : L.length = 128) (hM : M.length = 128) (h : freeQ L M) : freeQ (comL L nx l) (layP M (natW l)) := fun k h1 h2 => by
  rw [comL_len] at h2
  rw [com_free L nx l hl k h1]
  exact layP_congr _ _ _ k (by omega) (h k h1 h2)
end Go.Proofs.YtkkndlkelpdehaaGreatDoor
