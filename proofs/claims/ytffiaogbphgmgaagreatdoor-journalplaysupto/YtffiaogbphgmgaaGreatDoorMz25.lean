import Derived.Test.YtffiaogbphgmgaaGreatDoorMz19
import Derived.Test.YtffiaogbphgmgaaGreatDoorMz23
import Derived.Test.YtffiaogbphgmgaaGreatDoorMz24
import Derived.Test.YtffiaogbphgmgaaGreatDoorMz18
import Derived.Test.YtffiaogbphgmgaaGreatDoorMz04
import Derived.BigQuiet
import Derived.Test.YtffiaogbphgmgaaGreatDoorMz22
import Derived.Test.YtffiaogbphgmgaaGreatDoorMz13
import Derived.Test.YtffiaogbphgmgaaGreatDoorMz14
import Derived.Test.YtffiaogbphgmgaaGreatDoorMz02
import Derived.Test.YtffiaogbphgmgaaGreatDoorMz20
namespace Go.Proofs.YtffiaogbphgmgaaGreatDoor
open Go.RowKit
theorem layP_skip (ps : List (Nat × ByteArray)) : ∀ (l : List ByteArray) (k : Nat), (∀ p ∈ ps, p.1 ≠ k) → (layP l ps).getD k ByteArray.empty = l.getD k ByteArray.empty := by
  induction ps with
  | nil => intro l k _; rfl
  | cons p r ih =>
    intro l k h
    show (layP (l.set p.1 p.2) r).getD k ByteArray.empty = _
    rw [ih _ k (fun q hq => h q (by simp [hq]))]
    exact getD_set_other l p.1 k p.2 (h p (by simp))
theorem layP_congr (ps : List (Nat × ByteArray)) : ∀ (l1 l2 : List ByteArray) (k : Nat), l1.length = l2.length → l1.getD k ByteArray.empty = l2.getD k ByteArray.empty → (layP l1 ps).getD k ByteArray.empty = (layP l2 ps).getD k ByteArray.empty := by
  induction ps with
  | nil => intro l1 l2 k _ h; exact h
  | cons p r ih =>
    intro l1 l2 k hl h
    refine ih _ _ k (by simp [hl]) ?_
    by_cases e : p.1 = k
    · subst e
      by_cases hk : p.1 < l1.length
      · rw [getD_set_same _ _ _ hk, getD_set_same _ _ _ (by omega)]
      · rw [List.getD_eq_getElem?_getD, List.getD_eq_getElem?_getD, List.getElem?_eq_none (by simp; omega), List.getElem?_eq_none (by simp; omega)]
    · rw [getD_set_other _ _ _ _ e, getD_set_other _ _ _ _ e]; exact h
theorem natW_app (a b : List Wr1) : natW (a ++ b) = natW a ++ natW b := by simp [natW]
/-- Behind a commit each free sector is what the list says. -/
theorem com_free (L : List ByteArray) (nx : Nat) (l : List Wr1) (hl : l.length ≤ 16) (k : Nat) (hk : 19 ≤ k) : (comL L nx l).getD k ByteArray.empty = (layP L (natW l)).getD k ByteArray.empty := by
  unfold comL
  rw [layP_skip [(1, headB nx [])] _ k (by intro p hp; simp at hp; subst hp; show 1 ≠ k; omega)]
  rw [filled, natW_app, layP_app, layP_skip (natW (List.replicate (16 - l.length) fillW)) _ k (by
    intro p hp
    obtain ⟨x, hx, rfl⟩ := List.mem_map.1 hp
    have := List.eq_of_mem_replicate hx
    subst this
    show 18 ≠ k
    omega)]
  refine layP_congr _ _ _ k (by simp only [layP_len]) ?_
  rw [layP_skip [(1, _)] _ k (by intro p hp; simp at hp; subst hp; show 1 ≠ k; omega), layP_skip _ _ k (by
    intro p hp
    obtain ⟨x, hx, rfl⟩ := List.mem_map.1 hp
    obtain ⟨i, hi, rfl⟩ := List.mem_map.1 hx
    have hi : i < (l ++ List.replicate (16 - l.length) fillW).length := List.mem_range.1 hi
    simp at hi
    show 2 + i ≠ k
    omega)]
/-- A disk and its journal, made behind w0. -/
def JI (w0 w : World) (b jb : Nat) (s : DSt) (nx : Nat) (lost : Bool) : Prop :=
  ∃ v, Dk w w0.heap.size b v s ∧ Jb w jb b nx lost ∧ ¬ Fd b v jb ∧ w0.heap.size ≤ jb ∧ Below w0.heap.size w0 w ∧ Sane s
theorem JI.di {w0 w : World} {b jb : Nat} {s : DSt} {nx : Nat} {lost : Bool} (h : JI w0 w b jb s nx lost) : DI w0 w b s := by
  obtain ⟨v, h1, h2, h3, h4, h5, h6⟩ := h
  exact ⟨v, h1, h5, h6⟩
theorem JI.bel {w0 w : World} {b jb : Nat} {s : DSt} {nx : Nat} {lost : Bool} (h : JI w0 w b jb s nx lost) : Below w0.heap.size w0 w := h.di.bel
theorem JI.below {w0 w w' : World} {b jb : Nat} {s : DSt} {nx : Nat} {lost : Bool} (h : JI w0 w b jb s nx lost) (hb : Below w.heap.size w w') : JI w0 w' b jb s nx lost := by
  obtain ⟨v, h1, h2, h3, h4, h5, h6⟩ := h
  exact ⟨v, h1.below hb, Blk.below h2 hb (Blk.lt h2), h3, h4, h5.trans (hb.mono h5.size), h6⟩
theorem JI.dpost {w0 w w' : World} {b jb : Nat} {v : DV} {s s' : DSt} {nx : Nat} {lost : Bool} (h1 : Dk w w0.heap.size b v s) (h2 : Jb w jb b nx lost) (h3 : ¬ Fd b v jb) (h4 : w0.heap.size ≤ jb) (h5 : Below w0.heap.size w0 w) (hs : Sane s') (hP : DPost w0.heap.size b v s' w w') : JI w0 w' b jb s' nx lost := by
  obtain ⟨v', k1, k2, k3⟩ := hP
  refine ⟨v', k1, Blk.only h2 k2 h3, fun q => ?_, h4, DI.only h1 h5 k2, hs⟩
  rcases k3 jb q with r | r
  · exact h3 r
  · have := Blk.lt h2; omega
theorem crashJ {w0 w : World} {b jb : Nat} {s : DSt} {nx : Nat} {lost : Bool} (h : JI w0 w b jb s nx lost) (hp : s.pend.length ≤ 1000000000) (p : Option Addr) (l : List Int) (n c : Nat) (hn : n = l.length) (hl : Ints w p l) (hll : l.length ≤ 9223372036854775807) :
    Calls Tryz.prog 13 #[.pointer (some ⟨b, 0, none⟩), .slice p n c] w fun e w' => e = .returned (.int .i64 (crashE s l)) ∧ JI w0 w' b jb (crashS s l) nx lost := by
  subst hn
  obtain ⟨v, h1, h2, h3, h4, h5, h6⟩ := h
  refine (crash_any w _ b v s h1 h5.size h6 hp p l c hl hll).mono ?_
  rintro ev w' ⟨rfl, hP⟩
  exact ⟨rfl, JI.dpost h1 h2 h3 h4 h5 (h6.crash l) hP⟩
theorem runs_sane (R : List (List Wr1)) : ∀ s, Sane s → Sane (runsR s R).2 := by
  induction R with
  | nil => intro s h; exact h
  | cons r R ih =>
    intro s h
    unfold runsR
    split
    · exact ih _ (layR_sane r s h)
    · exact layR_sane r s h
theorem commit_sane (s : DSt) (nx : Nat) (lost : Bool) (l : List Wr1) (h : Sane s) : Sane (commitR s nx lost l).s := by
  unfold commitR
  split
  · exact h
  · split
    · exact h
    · split
      · exact runs_sane _ s h
      · exact runs_sane _ s h
theorem commitJ {w0 w : World} {b jb : Nat} {s : DSt} {nx : Nat} {lost : Bool} (h : JI w0 w b jb s nx lost) (hnx : nx < 4294967296) (p : Option Addr) (c : Nat) (l : List Wr1) (n : Nat) (hn : n = l.length) (hl : Wls w p l) (hp : s.pend.length ≤ 1000000) (ha : s.acts.length ≤ 100000000) :
    Calls Tryz.prog 12 #[.pointer (some ⟨jb, 0, none⟩), .slice p n c] w fun e w' => e = .returned (.int .i64 (commitR s nx lost l).e) ∧ JI w0 w' b jb (commitR s nx lost l).s (commitR s nx lost l).nx (commitR s nx lost l).lost := by
  obtain ⟨v, h1, h2, h3, h4, h5, h6⟩ := h
  refine (commit_any w _ b jb nx v s lost h1 h2 h3 h5.size h6 hnx p c l n hn hl (by omega) (by omega)).mono ?_
  rintro ev w' ⟨rfl, v', k1, k2, k3, k4⟩
  refine ⟨rfl, v', k1, k2, fun q => ?_, h4, h5.trans (k3.below h5.size (fun k hk q => ?_)), commit_sane s nx lost l h6⟩
  · rcases k4 jb q with r | r
    · exact h3 r
    · have := Blk.lt h2; omega
  · rcases q with q | q
    · have := (h1.fd k q).1; omega
    · omega
/-- A disk with a journal that is opened. -/
def L0 : List ByteArray := (List.replicate 128 zero256).set 1 (headB 0 [])
theorem L0_len : L0.length = 128 := by simp [L0]
def A0 : List (Nat × Nat) := [(0, 1), (1, 0)]
theorem fresh_rs (L : List ByteArray) : freshS L = rs L [] := rfl
theorem format_rs : layR (freshS (List.replicate 128 zero256)) [(1, headB 0 [])] = (0, rs L0 A0) := by
  rw [fresh_rs, lay_rs _ _ _ (head_ok _ (by rw [List.length_replicate]; decide) 0 [] (by simp))]
  rfl
theorem head0 : L0.getD 1 ByteArray.empty = headB 0 [] := getD_set_same _ 1 _ (by rw [List.length_replicate]; decide)
theorem read_rs (L : List ByteArray) (A : List (Nat × Nat)) (j : Nat) (hj : j < L.length) : readE (rs L A) (j : Int) = 0 ∧ readT (rs L A) (j : Int) = L.getD j ByteArray.empty := readA (s := rs L A) ⟨rfl, rfl⟩ j hj
/-- Open of a disk whose head is clear. -/
theorem open_clear {w : World} {base b : Nat} {v : DV} {L : List ByteArray} {A : List (Nat × Nat)} (h : Dk w base b v (rs L A)) (hg : ETy w) (hb : base ≤ w.heap.size) (hS : Sane (rs L A)) (n : Nat) (hn : n < 4294967296) (hL : 1 < L.length) (hh : L.getD 1 ByteArray.empty = headB n []) (ha : A.length ≤ 10000000) :
    Calls Tryz.prog 29 #[.pointer (some ⟨b, 0, none⟩)] w fun e w' => ∃ jb, e = .returned (.tuple #[.pointer (some ⟨jb, 0, none⟩), .bool false, .int .i64 0]) ∧ JNew base b v (rs L A) jb ((n + 1) % 4294967296) w w' := by
  obtain ⟨r1, r2⟩ := read_rs L A 1 hL
  rw [show ((1 : Nat) : Int) = 1 from rfl] at r1 r2
  have ht : (readT (rs L A) 1).size ≤ 9223372036854775807 := by rw [r2, hh, headB_size n [] (by simp)]; decide
  refine (open_any w base b v (rs L A) h hg hb hS ht (Nat.zero_le _) (Nat.le_trans ha (by decide))).mono ?_
  intro e w' hP
  rcases hP with ⟨q, _⟩ | ⟨_, n', H, ok, hn', hR, hc⟩
  · exact absurd r1 q
  · rw [r2, hh] at hR
    obtain ⟨e1, e2, e3⟩ := rhp_clear n hn _ _ _ _ hR
    have e1' : n' = n := by omega
    subst e1' e2 e3
    rcases hc with ⟨q, _⟩ | ⟨_, _, q⟩ | ⟨_, q, _⟩ | ⟨_, q, _⟩
    · cases q
    · exact q
    · simp at q
    · simp at q
theorem JNew.ji {w0 w w' : World} {b jb nx : Nat} {v : DV} {s s' : DSt} (h1 : Dk w w0.heap.size b v s) (h5 : Below w0.heap.size w0 w) (hs : Sane s') (h : JNew w0.heap.size b v s' jb nx w w') : JI w0 w' b jb s' nx false := by
  obtain ⟨v', k1, k2, k3, k4, k5, k6⟩ := h
  exact ⟨v', k1, k2, k3, by have := h5.size; omega, DI.only h1 h5 k5, hs⟩
set_option maxRecDepth 100000 in
set_option maxHeartbeats 1000000 in
theorem started_any (w : World) (hg : ETy w) : Calls Tryz.prog 10 #[] w fun e w' => ∃ b jb, e = .returned (.tuple #[.pointer (some ⟨b, 0, none⟩), .pointer (some ⟨jb, 0, none⟩), .bool true]) ∧ JI w w' b jb (rs L0 A0) 1 false := by
  have HNW := hide (new128 w)
  have HG := hide hg
  clear hg
  go_enter Tryz.func10, Tryz.ntmps10
  go_wp2_with fail
  refine (unhide HNW).mono ?_
  rintro e x1 ⟨b, rfl, v, h1, h5, h6⟩
  have HF := hide (format_any x1 w.heap.size b v _ h1 h5.size h6 (Nat.zero_le _) (Nat.zero_le _))
  rw [format_rs] at HF
  have H1 := hide (And.intro h1 (And.intro h5 h6))
  clear h1 h5 h6 HNW
  go_wp2_with fail
  refine (unhide HF).mono ?_
  rintro e x2 ⟨rfl, v2, k1, k2, k3⟩
  have hb2 := DI.only (unhide H1).1 (unhide H1).2.1 k2
  have hS2 : Sane (rs L0 A0) := by
    have := layR_sane [(1, headB 0 [])] _ (unhide H1).2.2
    rw [format_rs] at this
    exact this
  have HO := hide (open_clear k1 ((unhide HG).below hb2 (unhide HG).lt) hb2.size hS2 0 (by decide) (by rw [L0_len]; decide) head0 (by decide))
  have H2 := hide (And.intro k1 (And.intro hb2 hS2))
  clear k1 k2 k3 hb2 hS2 HF H1
  go_wp2_with fail
  refine (unhide HO).mono ?_
  rintro e x3 ⟨jb, rfl, hJ⟩
  have H3 := hide (show JI w x3 b jb (rs L0 A0) 1 false from JNew.ji (unhide H2).1 (unhide H2).2.1 (unhide H2).2.2 hJ)
  clear hJ HO H2
  go_wp2
  go_ret3
  exact ⟨b, jb, rfl, unhide H3⟩
def aB : ByteArray := shapB ⟨#[97]⟩
theorem aB_ne : aB ≠ zero256 := fun h => by
  have h1 : nums (strOfNums (shapP (nums ⟨#[97]⟩) 256)) = nums (strOfNums (List.replicate 256 0)) := by rw [← zero_nums]; exact congrArg nums h
  rw [nums_strOfNums _ (shapP_bytes (nums ⟨#[97]⟩) 256), nums_strOfNums _ (bytes_of (l := List.replicate 256 0) (fun x hx => by have := List.eq_of_mem_replicate hx; omega))] at h1
  have h2 : (shapP (nums ⟨#[97]⟩) 256).getD 0 0 = (List.replicate 256 (0 : Int)).getD 0 0 := by rw [h1]
  rw [shapP_getD _ 256 0 (by decide) (by decide)] at h2
  have e : nums ⟨#[97]⟩ = [97] := rfl
  have e2 : (List.replicate 256 (0 : Int)).getD 0 0 = 0 := rfl
  rw [e, e2] at h2
  exact absurd h2 (by decide)
theorem aW_good : GoodL [(20, aB)] := ⟨by simp, fun x hx => by simp at hx; subst hx; exact ⟨by decide, by decide⟩, by simp [secs], fun x hx => by simp at hx; subst hx; exact shapB_size _⟩
theorem comA_len (l : List Wr1) (h : l.length ≤ 16) : (comA l).length = 38 := by
  have := filled_len l h
  simp [comA, actW, recL_len, this]
set_option maxRecDepth 100000 in
set_option maxHeartbeats 2000000 in
theorem awake_any (w : World) (hg : ETy w) : Calls Tryz.prog 4 #[] w fun e w' => e = .returned (.bool true) ∧ Below w.heap.size w w' := by
  have HST := hide (started_any w hg)
  have HSH := hide (fun (W : World) => shaped5_any ⟨#[97]⟩ (by decide) W)
  have HNO := hide (fun (W : World) => noughts_any W)
  have hne := aB_ne
  have hcm := commit_rs L0 A0 1 [(20, aB)] L0_len aW_good
  have hcf := com_free L0 1 [(20, aB)] (by simp) 20 (by decide)
  have hrd : (layP L0 (natW [(20, aB)])).getD 20 ByteArray.empty = aB := getD_set_same _ 20 _ (by rw [L0_len]; decide)
  rw [hrd] at hcf
  have hcl := comL_len L0 1 [(20, aB)]
  rw [L0_len] at hcl
  have hal := comA_len [(20, aB)] (by simp)
  rw [show shapB ⟨#[97]⟩ = aB from rfl] at HSH
  obtain ⟨z, hz⟩ : ∃ z, zero256 = z := ⟨_, rfl⟩
  rw [hz] at HNO hne
  generalize comL L0 1 [(20, aB)] = L2 at *
  generalize comA [(20, aB)] = A2 at *
  have hst : (aB.toList == z.toList) = false := by
    by_cases h : aB.toList == z.toList
    · exact absurd (by
        have := eq_of_beq h
        rw [ByteArray.toList_eq, ByteArray.toList_eq] at this
        exact WideShapes.bytes_inj this) hne
    · simpa using h
  obtain ⟨a, ha⟩ : ∃ a, aB = a := ⟨_, rfl⟩
  rw [ha] at HSH hcm hcf hst
  have HCM := hide hcm
  have HCF := hide (And.intro hcf (And.intro hcl hal))
  clear hg hne hcm hcf hrd hcl hal hz ha
  go_enter Tryz.func4, Tryz.ntmps4
  go_wp2_with fail
  refine (unhide HST).mono ?_
  rintro e x1 ⟨b, jb, rfl, hJ1⟩
  have H1 := hide hJ1
  clear hJ1 HST
  go_wp2_with fail
  refine (unhide HSH _).mono ?_
  rintro e x2 ⟨rfl, hb2⟩
  have H2 := hide ((unhide H1).below hb2)
  clear hb2 H1 HSH
  obtain ⟨x3, hx3⟩ : ∃ x, x = x2.alloc (Obj.cells #[.int .i64 20, .string a] 49) := ⟨_, rfl⟩
  have hB3 : Blk x3 x2.heap.size #[.int .i64 20, .string a] 49 := by rw [hx3]; exact Blk.new x2 _ _
  have H3 := hide ((unhide H2).below (show Below x2.heap.size x2 x3 from by rw [hx3]; exact (Below.refl _ x2).alloc (Nat.le_refl _) _))
  have HC := hide (commitJ (unhide H3) (by decide) (some ⟨x2.heap.size, 0, none⟩) 1 [(20, a)] 1 rfl (wls_blk (l := [(20, a)]) hB3) (Nat.zero_le _) (by show A0.length ≤ _; decide))
  rw [unhide HCM] at HC
  clear hB3 H2
  go_wp2_with fail
  rw [← hx3]
  replace hx3 := hide hx3
  refine (unhide HC).mono ?_
  rintro e x4 ⟨rfl, hJ4⟩
  have H4 := hide (show JI w x4 b jb (rs L2 (A0 ++ A2)) ((1 + 1) % 4294967296) false from hJ4)
  clear hJ4 HC H3
  go_wp2_with fail
  refine (crashJ (unhide H4) (Nat.zero_le _) none [] 0 0 rfl (Ints.nil _ _) (by simp)).mono ?_
  rintro e x5 ⟨rfl, hJ5⟩
  obtain ⟨c1, c2⟩ := crash_nil (rs L2 (A0 ++ A2))
  rw [c2] at hJ5
  rw [c1]
  have H5 := hide (show JI w x5 b jb (rs L2 (A0 ++ A2)) _ _ from hJ5)
  have HRD := hide (readD (unhide H5).di ((20 : Nat) : Int))
  obtain ⟨r1, r2⟩ := read_rs L2 (A0 ++ A2) 20 (by rw [(unhide HCF).2.1]; decide)
  rw [r1, r2, (unhide HCF).1, show ((20 : Nat) : Int) = 20 from rfl] at HRD
  clear hJ5 c1 c2 r1 r2 H4
  go_wp2_with fail
  refine (unhide HRD).mono ?_
  rintro e x6 ⟨rfl, rfl⟩
  go_wp2_with fail
  refine (unhide HNO _).mono ?_
  rintro e x7 ⟨rfl, hb7⟩
  have H7 := hide ((unhide H5).below hb7)
  clear hb7 HRD H5
  go_wp2
  go_ret
  exact ⟨by simp, (unhide H7).bel⟩
end Go.Proofs.YtffiaogbphgmgaaGreatDoor

namespace Go.Proofs.YtffiaogbphgmgaaGreatDoor
open Go.RowKit
theorem next_any (w : World) (jb b nx : Nat) (lost : Bool) (hJ : Jb w jb b nx lost) (hnx : nx < 4294967296) : Calls Tryz.prog 35 #[.pointer (some ⟨jb, 0, none⟩)] w fun e w' => e = .returned (.int .i64 (nx : Int)) ∧ w' = w := by
  have c1 : w.cell? ⟨jb, 1, none⟩ = some (.int .u32 (nx : Int)) := by rw [Blk.cell hJ 1]; rfl
  have hw : IntKind.i64.wrap (nx : Int) = (nx : Int) := wrapI_eq _ (by omega) (by omega)
  clear hJ
  go_enter Tryz.func35, Tryz.ntmps35
  go_wp2
  go_ret
  exact ⟨rfl, rfl⟩
end Go.Proofs.YtffiaogbphgmgaaGreatDoor

namespace Go.Proofs.YtffiaogbphgmgaaGreatDoor
open Go.RowKit
set_option maxRecDepth 100000
theorem Rk.frB {w : World} {base b : Nat} {v : RV} {s : DSt} (h : Rk w base b v s) (k : Nat) (hk : Fr4 b v k) : base ≤ k ∧ k < w.heap.size := by
  rcases hk with q | q | q | q
  · rw [q]; exact ⟨h.lo, h.blk.lt⟩
  · exact h.rl.lt k q
  · exact h.rp.lt k q
  · exact h.ra.lt k q
/-- what Open does to a disk, by what its head says -/
def OR (s : DSt) (n : Nat) (H : List Int) (ok : Bool) (s' : DSt) (er : Int) (ag has : Bool) : Prop :=
  (readE s 1 ≠ 0 ∧ er = readE s 1 ∧ ag = false ∧ has = false ∧ s' = s) ∨ (readE s 1 = 0 ∧ ok = false ∧ er = 53 ∧ ag = false ∧ has = false ∧ s' = s) ∨
  (readE s 1 = 0 ∧ ok = true ∧ H.length = 0 ∧ er = 0 ∧ ag = false ∧ has = true ∧ s' = s) ∨ (readE s 1 = 0 ∧ ok = true ∧ 0 < H.length ∧ (redoR s n H).1 ≠ 0 ∧ er = (redoR s n H).1 ∧ ag = false ∧ has = false ∧ s' = (redoR s n H).2) ∨
  (readE s 1 = 0 ∧ ok = true ∧ 0 < H.length ∧ (redoR s n H).1 = 0 ∧ er = 0 ∧ ag = true ∧ has = true ∧ s' = (redoR s n H).2)
theorem OR.ex (s : DSt) (n : Nat) (H : List Int) (ok : Bool) : ∃ s' er ag has, OR s n H ok s' er ag has := by
  by_cases h1 : readE s 1 = 0
  · cases ok with
    | false => exact ⟨_, _, _, _, .inr (.inl ⟨h1, rfl, rfl, rfl, rfl, rfl⟩)⟩
    | true =>
      by_cases h2 : H.length = 0
      · exact ⟨_, _, _, _, .inr (.inr (.inl ⟨h1, rfl, h2, rfl, rfl, rfl, rfl⟩))⟩
      · by_cases h3 : (redoR s n H).1 = 0
        · exact ⟨_, _, _, _, .inr (.inr (.inr (.inr ⟨h1, rfl, by omega, h3, rfl, rfl, rfl, rfl⟩)))⟩
        · exact ⟨_, _, _, _, .inr (.inr (.inr (.inl ⟨h1, rfl, by omega, h3, rfl, rfl, rfl, rfl⟩)))⟩
  · exact ⟨_, _, _, _, .inl ⟨h1, rfl, rfl, rfl, rfl⟩⟩
/-- what Open answers: a journal, or none -/
def JpQ (has : Bool) (w : World) (J : World → Nat → Prop) (jp : Option Addr) (w' : World) : Prop := (has = false ∧ jp = none) ∨ (has = true ∧ ∃ jb, jp = some ⟨jb, 0, none⟩ ∧ w.heap.size ≤ jb ∧ J w' jb)
theorem OpenPost.or {base b : Nat} {v : DV} {s : DSt} {w w' : World} {e : Ending} {n : Nat} {H : List Int} {ok : Bool} {s' : DSt} {er : Int} {ag has : Bool} (h : OpenPost base b v s w e w') (hR : RHP (readT s 1) (s.last.length : Int) (n : Int) H ok) (hO : OR s n H ok s' er ag has) :
    (∃ jp, e = .returned (.tuple #[.pointer jp, .bool ag, .int .i64 er]) ∧ JpQ has w (fun W jb => Jb W jb b ((n + 1) % 4294967296) false) jp w') ∧ DPost base b v s' w w' := by
  rcases h with ⟨h1, rfl, h2⟩ | ⟨h1, n', H', ok', hn, hR', h⟩
  · rcases hO with ⟨_, rfl, rfl, rfl, rfl⟩ | ⟨q, _⟩ | ⟨q, _⟩ | ⟨q, _⟩ | ⟨q, _⟩
    · exact ⟨⟨none, rfl, .inl ⟨rfl, rfl⟩⟩, h2⟩
    all_goals exact absurd q h1
  · obtain ⟨e1, rfl, rfl⟩ := hR.uniq hR'
    obtain rfl : n = n' := by omega
    rcases hO with ⟨q, _⟩ | ⟨_, k1, rfl, rfl, rfl, rfl⟩ | ⟨_, k1, k2, rfl, rfl, rfl, rfl⟩ | ⟨_, k1, k2, k3, rfl, rfl, rfl, rfl⟩ | ⟨_, k1, k2, k3, rfl, rfl, rfl, rfl⟩
    · exact absurd h1 q
    · rcases h with ⟨_, rfl, h2⟩ | ⟨q, _⟩ | ⟨q, _⟩ | ⟨q, _⟩
      · exact ⟨⟨none, rfl, .inl ⟨rfl, rfl⟩⟩, h2⟩
      all_goals (rw [k1] at q; cases q)
    · rcases h with ⟨q, _⟩ | ⟨_, _, jb, rfl, v', j1, j2, j3, j4, j5, j6⟩ | ⟨_, q, _⟩ | ⟨_, q, _⟩
      · rw [k1] at q; cases q
      · exact ⟨⟨_, rfl, .inr ⟨rfl, jb, rfl, j4, j2⟩⟩, v', j1, j5, j6⟩
      all_goals omega
    · rcases h with ⟨q, _⟩ | ⟨_, q, _⟩ | ⟨_, _, _, rfl, h2⟩ | ⟨_, _, q, _⟩
      · rw [k1] at q; cases q
      · omega
      · exact ⟨⟨none, rfl, .inl ⟨rfl, rfl⟩⟩, h2⟩
      · exact absurd q k3
    · rcases h with ⟨q, _⟩ | ⟨_, q, _⟩ | ⟨_, _, q, _⟩ | ⟨_, _, _, jb, rfl, v', j1, j2, j3, j4, j5, j6⟩
      · rw [k1] at q; cases q
      · omega
      · exact absurd k3 q
      · exact ⟨⟨_, rfl, .inr ⟨rfl, jb, rfl, j4, j2⟩⟩, v', j1, j5, j6⟩
theorem ROQ.or {base b : Nat} {v : RV} {s : DSt} {w w' : World} {e : Ending} {n : Nat} {H : List Int} {ok : Bool} {s' : DSt} {er : Int} {ag has : Bool} (h : ROQ base b v s w e w') (hR : RHP (readT s 1) (s.last.length : Int) (n : Int) H ok) (hO : OR s n H ok s' er ag has) :
    (∃ jp, e = .returned (.tuple #[.pointer jp, .bool ag, .int .i64 er]) ∧ JpQ has w (fun W jb => Rj W jb b n false) jp w') ∧ RPst base b v s' w w' := by
  rcases h with ⟨h1, rfl, h2⟩ | ⟨h1, n', H', ok', hn, hR', h⟩
  · rcases hO with ⟨_, rfl, rfl, rfl, rfl⟩ | ⟨q, _⟩ | ⟨q, _⟩ | ⟨q, _⟩ | ⟨q, _⟩
    · exact ⟨⟨none, rfl, .inl ⟨rfl, rfl⟩⟩, h2⟩
    all_goals exact absurd q h1
  · obtain ⟨e1, rfl, rfl⟩ := hR.uniq hR'
    obtain rfl : n = n' := by omega
    rcases hO with ⟨q, _⟩ | ⟨_, k1, rfl, rfl, rfl, rfl⟩ | ⟨_, k1, k2, rfl, rfl, rfl, rfl⟩ | ⟨_, k1, k2, k3, rfl, rfl, rfl, rfl⟩ | ⟨_, k1, k2, k3, rfl, rfl, rfl, rfl⟩
    · exact absurd h1 q
    · rcases h with ⟨_, rfl, h2⟩ | ⟨q, _⟩ | ⟨q, _⟩ | ⟨q, _⟩
      · exact ⟨⟨none, rfl, .inl ⟨rfl, rfl⟩⟩, h2⟩
      all_goals (rw [k1] at q; cases q)
    · rcases h with ⟨q, _⟩ | ⟨_, _, jb, rfl, h2, j2, j4⟩ | ⟨_, q, _⟩ | ⟨_, q, _⟩
      · rw [k1] at q; cases q
      · exact ⟨⟨_, rfl, .inr ⟨rfl, jb, rfl, j4, j2⟩⟩, h2⟩
      all_goals omega
    · rcases h with ⟨q, _⟩ | ⟨_, q, _⟩ | ⟨_, _, _, rfl, h2⟩ | ⟨_, _, q, _⟩
      · rw [k1] at q; cases q
      · omega
      · exact ⟨⟨none, rfl, .inl ⟨rfl, rfl⟩⟩, h2⟩
      · exact absurd q k3
    · rcases h with ⟨q, _⟩ | ⟨_, q, _⟩ | ⟨_, _, q, _⟩ | ⟨_, _, _, jb, rfl, h2, j2, j4⟩
      · rw [k1] at q; cases q
      · omega
      · exact absurd k3 q
      · exact ⟨⟨_, rfl, .inr ⟨rfl, jb, rfl, j4, j2⟩⟩, h2⟩
end Go.Proofs.YtffiaogbphgmgaaGreatDoor

namespace Go.Proofs.YtffiaogbphgmgaaGreatDoor
open Go.RowKit
set_option maxRecDepth 100000
/-- A side: both disks, apart from one another, the side's own block, and a fence X of blocks that belong to none of them. -/
def Sd (w0 w : World) (xb b br : Nat) (s t : DSt) (cs : Array Value) (X : Nat → Prop) : Prop :=
  ∃ v vr, Dk w w0.heap.size b v s ∧ Rk w w0.heap.size br vr t ∧ (∀ k, Fd b v k → ¬ Fr4 br vr k ∧ k ≠ xb) ∧ (∀ k, Fr4 br vr k → k ≠ xb) ∧ Blk w xb cs 36 ∧ w0.heap.size ≤ xb ∧ Below w0.heap.size w0 w ∧ ∀ k, X k → ¬ Fd b v k ∧ ¬ Fr4 br vr k ∧ k ≠ xb ∧ k < w.heap.size
theorem Sd.more {w0 w : World} {xb b br : Nat} {s t : DSt} {cs : Array Value} {X : Nat → Prop} (h : Sd w0 w xb b br s t cs X) {w' : World} {Y : Nat → Prop} (hb : Below w.heap.size w w') (hY : ∀ k, Y k → X k ∨ (w.heap.size ≤ k ∧ k < w'.heap.size)) : Sd w0 w' xb b br s t cs Y := by
  obtain ⟨v, vr, h1, h2, h3, h4, h5, h6, h7, h8⟩ := h
  refine ⟨v, vr, h1.below hb, h2.below hb, h3, h4, h5.below hb h5.lt, h6, h7.trans (hb.mono h7.size), fun k hk => ?_⟩
  have hs := hb.size
  rcases hY k hk with q | q
  · obtain ⟨a1, a2, a3, a4⟩ := h8 k q
    exact ⟨a1, a2, a3, by omega⟩
  · exact ⟨fun r => by have := (h1.fd k r).2; omega, fun r => by have := (h2.frB k r).2; omega, fun e => by have := h5.lt; omega, q.2⟩
theorem Sd.below {w0 w : World} {xb b br : Nat} {s t : DSt} {cs : Array Value} {X : Nat → Prop} (h : Sd w0 w xb b br s t cs X) {w' : World} (hb : Below w.heap.size w w') : Sd w0 w' xb b br s t cs X := h.more hb (fun _ q => .inl q)
theorem Sd.blk {w0 w : World} {xb b br : Nat} {s t : DSt} {cs : Array Value} {X : Nat → Prop} (h : Sd w0 w xb b br s t cs X) : Blk w xb cs 36 := by
  obtain ⟨v, vr, h1, h2, h3, h4, h5, h6, h7, h8⟩ := h
  exact h5
theorem Sd.bel {w0 w : World} {xb b br : Nat} {s t : DSt} {cs : Array Value} {X : Nat → Prop} (h : Sd w0 w xb b br s t cs X) : Below w0.heap.size w0 w := by
  obtain ⟨v, vr, h1, h2, h3, h4, h5, h6, h7, h8⟩ := h
  exact h7
/-- A call of the program's disk leaves the document's, the side, and the fence as they are. -/
theorem Sd.prog {w0 w : World} {xb b br : Nat} {s t : DSt} {cs : Array Value} {X : Nat → Prop} (h : Sd w0 w xb b br s t cs X) {s' : DSt} {f : FuncId} {args : Array Value} {R : Ending → World → Prop}
    (C : ∀ v, Dk w w0.heap.size b v s → Calls Tryz.prog f args w fun e w' => R e w' ∧ DPost w0.heap.size b v s' w w') :
    Calls Tryz.prog f args w fun e w' => R e w' ∧ Sd w0 w' xb b br s' t cs X ∧ Only (fun k => ¬ X k ∧ k ≠ xb) w w' := by
  obtain ⟨v, vr, h1, h2, h3, h4, h5, h6, h7, h8⟩ := h
  refine (C v h1).mono ?_
  rintro e w' ⟨hR, v', d1, d2, d3⟩
  have hs := d2.size
  refine ⟨hR, ⟨v', vr, d1, h2.only d2 (fun k hk q => (h3 k q).1 hk), fun k hk => ?_, h4, h5.only d2 (fun q => (h3 xb q).2 rfl), h6, h7.trans (d2.below h7.size (fun k hk q => by have := (h1.fd k q).1; omega)), fun k hk => ?_⟩, d2.mono (fun k _ q => ⟨fun r => (h8 k r).1 q, (h3 k q).2⟩)⟩
  · rcases d3 k hk with q | q
    · exact h3 k q
    · exact ⟨fun r => by have := (h2.frB k r).2; omega, fun e => by have := h5.lt; omega⟩
  · obtain ⟨a1, a2, a3, a4⟩ := h8 k hk
    exact ⟨fun r => by rcases d3 k r with q | q; exact a1 q; omega, a2, a3, by omega⟩
/-- .. and one of the document's. -/
theorem Sd.doc {w0 w : World} {xb b br : Nat} {s t : DSt} {cs : Array Value} {X : Nat → Prop} (h : Sd w0 w xb b br s t cs X) {t' : DSt} {f : FuncId} {args : Array Value} {R : Ending → World → Prop}
    (C : ∀ v, Rk w w0.heap.size br v t → Calls Tryz.prog f args w fun e w' => R e w' ∧ RPst w0.heap.size br v t' w w') :
    Calls Tryz.prog f args w fun e w' => R e w' ∧ Sd w0 w' xb b br s t' cs X ∧ Only (fun k => ¬ X k ∧ k ≠ xb) w w' := by
  obtain ⟨v, vr, h1, h2, h3, h4, h5, h6, h7, h8⟩ := h
  refine (C vr h2).mono ?_
  rintro e w' ⟨hR, v', d1, d2, d3⟩
  have hs := d2.size
  refine ⟨hR, ⟨v, v', h1.only d2 (fun k hk q => (h3 k hk).1 q), d1, fun k hk => ⟨fun r => ?_, (h3 k hk).2⟩, fun k hk => ?_, h5.only d2 (fun q => h4 xb q rfl), h6, h7.trans (d2.below h7.size (fun k hk q => by have := (h2.frB k q).1; omega)), fun k hk => ?_⟩, d2.mono (fun k _ q => ⟨fun r => (h8 k r).2.1 q, h4 k q⟩)⟩
  · rcases d3 k r with q | q
    · exact (h3 k hk).1 q
    · have := (h1.fd k hk).2
      omega
  · rcases d3 k hk with q | q
    · exact h4 k q
    · have := h5.lt
      omega
  · obtain ⟨a1, a2, a3, a4⟩ := h8 k hk
    exact ⟨a1, fun r => by rcases d3 k r with q | q; exact a2 q; omega, a3, by omega⟩
/-- a cell of the side is turned -/
theorem Sd.set {w0 w : World} {xb b br : Nat} {s t : DSt} {cs : Array Value} {X : Nat → Prop} (h : Sd w0 w xb b br s t cs X) (j : Nat) (u : Value) : Sd w0 (w.setCell ⟨xb, j, none⟩ u) xb b br s t (cs.setIfInBounds j u) X := by
  obtain ⟨v, vr, h1, h2, h3, h4, h5, h6, h7, h8⟩ := h
  have hO : Only (fun k => k = xb) w (w.setCell ⟨xb, j, none⟩ u) := (Only.refl _ w).setCell _ _ (fun _ => rfl)
  exact ⟨v, vr, h1.only hO (fun k hk => (h3 k hk).2), h2.only hO (fun k hk => h4 k hk), h3, h4, h5.set j u, h6, h7.trans (hO.below h7.size (fun k hk q => by omega)), fun k hk => by
    obtain ⟨a1, a2, a3, a4⟩ := h8 k hk
    exact ⟨a1, a2, a3, Nat.lt_of_lt_of_le a4 hO.size⟩⟩
end Go.Proofs.YtffiaogbphgmgaaGreatDoor

namespace Go.Proofs.YtffiaogbphgmgaaGreatDoor
open Go.RowKit
set_option maxRecDepth 100000
theorem Sd.wr {w0 w : World} {xb b br : Nat} {s t : DSt} {cs : Array Value} {X : Nat → Prop} (h : Sd w0 w xb b br s t cs X) (hS : Sane s) (hp : s.pend.length ≤ 40000000) (ha : s.acts.length ≤ 40000000) (i : Int) (x : ByteArray) :
    Calls Tryz.prog 20 #[.pointer (some ⟨b, 0, none⟩), .int .i64 i, .string x] w fun e w' => e = .returned (.int .i64 (writeE s i x)) ∧ Sd w0 w' xb b br (writeS s i x) t cs X ∧ Only (fun k => ¬ X k ∧ k ≠ xb) w w' :=
  h.prog (R := fun e _ => e = .returned (.int .i64 (writeE s i x))) (fun v hD => write_any w _ b v s hD h.bel.size hS (by omega) (by omega) i x)
theorem Sd.fl {w0 w : World} {xb b br : Nat} {s t : DSt} {cs : Array Value} {X : Nat → Prop} (h : Sd w0 w xb b br s t cs X) (hS : Sane s) (hp : s.pend.length ≤ 40000000) (ha : s.acts.length ≤ 40000000) :
    Calls Tryz.prog 22 #[.pointer (some ⟨b, 0, none⟩)] w fun e w' => e = .returned (.int .i64 (flushE s)) ∧ Sd w0 w' xb b br (flushS s) t cs X ∧ Only (fun k => ¬ X k ∧ k ≠ xb) w w' :=
  h.prog (R := fun e _ => e = .returned (.int .i64 (flushE s))) (fun v hD => flush_any w _ b v s hD h.bel.size hS (by omega) (by omega))
theorem Sd.rwr {w0 w : World} {xb b br : Nat} {s t : DSt} {cs : Array Value} {X : Nat → Prop} (h : Sd w0 w xb b br s t cs X) (hS : Sane t) (hC : Coh t) (hp : t.pend.length ≤ 40000000) (ha : t.acts.length ≤ 40000000) (i : Int) (x : ByteArray) :
    Calls Tryz.prog 21 #[.pointer (some ⟨br, 0, none⟩), .int .i64 i, .string x] w fun e w' => e = .returned (.int .i64 (writeE t i x)) ∧ Sd w0 w' xb b br s (writeS t i x) cs X ∧ Only (fun k => ¬ X k ∧ k ≠ xb) w w' :=
  h.doc (R := fun e _ => e = .returned (.int .i64 (writeE t i x))) (fun v hD => rwrite_any w _ br v t hD h.bel.size hS hC (by omega) (by omega) i x)
theorem Sd.rfl_ {w0 w : World} {xb b br : Nat} {s t : DSt} {cs : Array Value} {X : Nat → Prop} (h : Sd w0 w xb b br s t cs X) (hS : Sane t) (hC : Coh t) (hp : t.pend.length ≤ 40000000) (ha : t.acts.length ≤ 40000000) :
    Calls Tryz.prog 23 #[.pointer (some ⟨br, 0, none⟩)] w fun e w' => e = .returned (.int .i64 (flushE t)) ∧ Sd w0 w' xb b br s (flushS t) cs X ∧ Only (fun k => ¬ X k ∧ k ≠ xb) w w' :=
  h.doc (R := fun e _ => e = .returned (.int .i64 (flushE t))) (fun v hD => rflush_any w _ br v t hD h.bel.size hS hC (by omega) (by omega))
end Go.Proofs.YtffiaogbphgmgaaGreatDoor

namespace Go.Proofs.YtffiaogbphgmgaaGreatDoor
open Go.RowKit
set_option maxRecDepth 100000
end Go.Proofs.YtffiaogbphgmgaaGreatDoor

namespace Go.Proofs.YtffiaogbphgmgaaGreatDoor
open Go.RowKit
set_option maxRecDepth 100000
set_option maxHeartbeats 2000000 in
/-- Bytes of any number: four of them. -/
theorem rbytesI (n : Int) (hn : I64 n) (w : World) :
    Calls Tryz.prog 80 #[.int .i64 n, .int .i64 4] w fun e w' => (∃ t : ByteArray, e = .returned (.string t) ∧ t.size = 4) ∧ Below w.heap.size w w' := by
  have HB := hide (Below.refl w.heap.size w)
  go_enter Tryz.func80, Tryz.ntmps80
  go_wp2
  go_loopw [0, 5, 6] (fun u s i wr => ∃ (j : Nat) (m : Int) (t : ByteArray), j ≤ 4 ∧ I64 m ∧ u = .int .i64 m ∧ i = .int .i64 (j : Int) ∧ s = .string t ∧ t.size = j ∧ Below w.heap.size w wr) (fun _ _ i _ => 4 - (intOf i).toNat)
  case atStart => exact ⟨0, n, _, by omega, hn, rfl, rfl, rfl, rfl, unhide HB⟩
  case round =>
    obtain ⟨j, m, S, hj, hm, rfl, rfl, rfl, hsz, hBe⟩ := hrel
    obtain ⟨wo, rfl⟩ : ∃ wo, wo = wr := ⟨_, rfl⟩
    have HBE := hide hBe
    clear hBe HB
    by_cases hjk : j < 4
    · have hjk' : (j : Int) < 4 := by omega
      obtain ⟨M, hM⟩ : ∃ M, m.tmod 256 = M := ⟨_, rfl⟩
      obtain ⟨R, hR⟩ : ∃ R, IntKind.u8.wrap M = R := ⟨_, rfl⟩
      obtain ⟨Q, hQ⟩ : ∃ Q, m.tdiv 256 = Q := ⟨_, rfl⟩
      have hQI : I64 Q := by
        obtain ⟨a, b⟩ := hm
        have h1 : Q.natAbs = m.natAbs / 256 := by rw [← hQ, Int.natAbs_tdiv]; rfl
        constructor <;> omega
      have hQw : IntKind.i64.wrap Q = Q := wrapI_eq _ hQI.1 hQI.2
      have hcv := run_one wo R 5
      have hs1 : (strOfNums [R]).size = 1 := rfl
      have HQI := hide hQI
      have HSZ := hide (show (strOfNums [R] ++ S).size = j + 1 from by rw [ByteArray.size_append, hs1, hsz]; omega)
      clear hm hQI
      generalize strOfNums [R] = S1 at *
      have y1 : ¬ 9223372036854775807 < S1.size + S.size := by omega
      have y2 : ¬ 9223372036854775807 < 1 + j := by omega
      have y3 : ¬ 9223372036854775807 < 1 + S.size := by omega
      go_wp2
      go_roundw
      case rel => exact ⟨j + 1, Q, _, by omega, unhide HQI, by go_num, by go_num, rfl, unhide HSZ, (unhide HBE).alloc (by have := (unhide HBE).size; omega) _⟩
      case measure => simp [intOf]; omega
    · have hjk' : ¬ (j : Int) < 4 := by omega
      have HF := hide (show S.size = 4 by omega)
      clear hsz
      go_wp2
      go_ret
      exact ⟨⟨_, rfl, unhide HF⟩, unhide HBE⟩
theorem makeB_le (kind number : Int) (body : ByteArray) : (makeB kind number body).size ≤ 256 := by
  rw [makeB]
  by_cases h : errM kind number body.size = 0
  · have hb : body.size ≤ 244 := by
      by_cases q : 244 < body.size
      · rw [errM] at h
        by_cases r : ¬ fitsP kind 1 ∨ ¬ fitsP number 4
        · rw [if_pos r] at h; omega
        · rw [if_neg r, if_pos q] at h; omega
      · omega
    rw [if_pos h, strOfNums_size, makeL_len _ _ _ (by rw [nums_len]; exact hb)]
    exact Nat.le_refl _
  · rw [if_neg h]
    exact Nat.zero_le _
set_option maxHeartbeats 2000000 in
/-- A head that is set: some text. -/
theorem rset_some (n : Int) (p : Option Addr) (m c : Nat) (l : List Int) (hl : l.length = m) (w : World) (hI : Ints w p l) (hB : ∀ z ∈ l, I64 z) :
    Calls Tryz.prog 38 #[.int .i64 n, .slice p m c] w fun e w' => (∃ t : ByteArray, e = .returned (.string t) ∧ t.size ≤ 256) ∧ Below w.heap.size w w' := by
  have HL := hide (And.intro hl (And.intro hI hB))
  have X0 := hide (Below.refl w.heap.size w)
  clear hl hI hB
  go_enter Tryz.func38, Tryz.ntmps38
  go_wp2
  go_loopw [5, 6, 7] (fun s i _ wr => ∃ (j : Nat) (t : ByteArray), j ≤ 16 ∧ i = .int .i64 (j : Int) ∧ s = .string t ∧ t.size = 1 + 4 * j ∧ Below w.heap.size w wr) (fun _ i _ _ => 16 - (intOf i).toNat)
  case atStart => exact ⟨0, _, by omega, rfl, rfl, rfl, unhide X0⟩
  case round =>
    obtain ⟨j, t, hj, rfl, rfl, ht, hb⟩ := hrel
    obtain ⟨wo, rfl⟩ : ∃ wo, wo = wr := ⟨_, rfl⟩
    have HBE := hide hb
    have HT := hide ht
    clear hb X0 ht
    by_cases hj16 : j < 16
    · have j16 : (j : Int) < 16 := by omega
      by_cases hjm : j < m
      · have jm : (j : Int) < (m : Int) := by omega
        have j0 : (0 : Int) ≤ (j : Int) := by omega
        obtain ⟨hl, hI, hB⟩ := unhide HL
        obtain ⟨g, o, rfl, hg, hc⟩ := hI j (by omega)
        have cj : wo.cell? ⟨g, o + j, none⟩ = some (.int .i64 (l.getD j 0)) := by rw [(unhide HBE).cell (p := ⟨g, o + j, none⟩) hg]; exact hc
        have hz : I64 (l.getD j 0) := hB _ (by rw [List.getD_eq_getElem?_getD, List.getElem?_eq_getElem (by omega)]; exact List.getElem_mem _)
        have HRB := hide (rbytesI (l.getD j 0) hz wo)
        generalize l.getD j 0 = z at *
        clear hl hI hB hc hz
        go_wp2_with fail
        refine (unhide HRB).mono ?_
        rintro e x1 ⟨⟨u, rfl, hu⟩, hb1⟩
        have y1 : ¬ 9223372036854775807 < t.size + u.size := by have := unhide HT; omega
        have HN := hide (show (t ++ u).size = 1 + 4 * (j + 1) from by rw [ByteArray.size_append, unhide HT, hu]; omega)
        have HB1 := hide (show Below w.heap.size w x1 from (unhide HBE).trans (hb1.mono (unhide HBE).size))
        clear hb1 hu HRB cj
        go_wp2
        go_roundw
        case rel => exact ⟨j + 1, _, by omega, by go_num, rfl, unhide HN, unhide HB1⟩
        case measure => simp [intOf]; omega
      · have jm : ¬ (j : Int) < (m : Int) := by omega
        have HRB := hide (rbytesI 18 ⟨by decide, by decide⟩ wo)
        go_wp2_with fail
        refine (unhide HRB).mono ?_
        rintro e x1 ⟨⟨u, rfl, hu⟩, hb1⟩
        have y1 : ¬ 9223372036854775807 < t.size + u.size := by have := unhide HT; omega
        have HN := hide (show (t ++ u).size = 1 + 4 * (j + 1) from by rw [ByteArray.size_append, unhide HT, hu]; omega)
        have HB1 := hide (show Below w.heap.size w x1 from (unhide HBE).trans (hb1.mono (unhide HBE).size))
        clear hb1 hu HRB
        go_wp2
        go_roundw
        case rel => exact ⟨j + 1, _, by omega, by go_num, rfl, unhide HN, unhide HB1⟩
        case measure => simp [intOf]; omega
    · have j16 : ¬ (j : Int) < 16 := by omega
      have HMK := hide (rmake_any 2 n t wo)
      go_wp2_with fail
      refine (unhide HMK).mono ?_
      rintro e x1 ⟨rfl, hb1⟩
      have HB1 := hide (show Below w.heap.size w x1 from (unhide HBE).trans (hb1.mono (unhide HBE).size))
      obtain ⟨tt, htt⟩ : ∃ z, makeB 2 n t = z := ⟨_, rfl⟩
      rw [htt]
      have HS := hide (show tt.size ≤ 256 from by rw [← htt]; exact makeB_le 2 n t)
      clear hb1 HMK htt
      go_wp2
      go_ret
      exact ⟨⟨_, rfl, unhide HS⟩, unhide HB1⟩
end Go.Proofs.YtffiaogbphgmgaaGreatDoor

namespace Go.Proofs.YtffiaogbphgmgaaGreatDoor
open Go.RowKit
set_option maxRecDepth 100000
theorem own_blk {w : World} {base : Nat} {e : TypeId} {s n : Nat} {v : Value} {xs : List Value} (h : w.ownsRow base e s v n xs) {k : Nat} (hk : v.ownBlock = some k) : ∃ cur, Blk w k cur e := by
  rcases h.2 with ⟨rfl, _⟩ | ⟨g, cap, cur, rfl, hb, hg, r⟩
  · cases hk
  · obtain rfl : g = k := by simpa [Value.ownBlock] using hk
    exact ⟨cur, hg⟩
theorem blk_ty {w : World} {b : Nat} {c c' : Array Value} {T T' : TypeId} (h : Blk w b c T) (h' : Blk w b c' T') : T = T' := by
  have e : (some (Obj.cells c T (0, 0))) = some (Obj.cells c' T' (0, 0)) := (show w.heap[b]? = _ from h).symm.trans h'
  injection e with e
  injection e with _ e
/-- a type that no block of a disk has -/
def FT (T : TypeId) : Prop := T ≠ 9 ∧ T ≠ 63 ∧ T ≠ 66 ∧ T ≠ 49 ∧ T ≠ 135 ∧ T ≠ 87
theorem Dk.noty {w : World} {base b k : Nat} {v : DV} {s : DSt} {c : Array Value} {T : TypeId} (h : Dk w base b v s) (hB : Blk w k c T) (hT : FT T) : ¬ Fd b v k := by
  rintro (q | q | q | q | q)
  · rw [q] at hB; exact hT.2.1 (blk_ty hB h.blk)
  · obtain ⟨cur, hc⟩ := own_blk h.rl q; exact hT.1 (blk_ty hB hc)
  · obtain ⟨cur, hc⟩ := own_blk h.rn q; exact hT.1 (blk_ty hB hc)
  · obtain ⟨cur, hc⟩ := own_blk h.rp q; exact hT.2.2.2.1 (blk_ty hB hc)
  · obtain ⟨cur, hc⟩ := own_blk h.ra q; exact hT.2.2.2.2.1 (blk_ty hB hc)
theorem Rk.noty {w : World} {base b k : Nat} {v : RV} {s : DSt} {c : Array Value} {T : TypeId} (h : Rk w base b v s) (hB : Blk w k c T) (hT : FT T) : ¬ Fr4 b v k := by
  rintro (q | q | q | q)
  · rw [q] at hB; exact hT.2.2.1 (blk_ty hB h.blk)
  · obtain ⟨cur, hc⟩ := own_blk h.rl q; exact hT.1 (blk_ty hB hc)
  · obtain ⟨cur, hc⟩ := own_blk h.rp q; exact hT.2.2.2.1 (blk_ty hB hc)
  · obtain ⟨cur, hc⟩ := own_blk h.ra q; exact hT.2.2.2.2.2 (blk_ty hB hc)
end Go.Proofs.YtffiaogbphgmgaaGreatDoor
