import Derived.Test.YtnfcnpolflfpfaaGreatDoorMr23
import Derived.Test.YtnfcnpolflfpfaaGreatDoorMr01
import Derived.Test.YtnfcnpolflfpfaaGreatDoorCards
import Derived.Test.YtnfcnpolflfpfaaGreatDoorTie
import Derived.ProofKit
import Derived.OpenShut
import Derived.ShutString
import Derived.SizedLaws
import Derived.Deep.DeepHandedRow
import Derived.LaidLaws
import Derived.LaidHandle
import Derived.Lib.LaidTab
import Derived.Deep.Slices
import Derived.Deep.Strs
import Derived.Lib.SmallJoins
import Derived.Test.YtnfcnpolflfpfaaGreatDoorMr12
import Derived.BigQuiet
namespace Go.Proofs.YtnfcnpolflfpfaaGreatDoor
open Go.RowKit
/-- Behind k lists: the disk, its journal, and the image that is wanted. -/
def LtR (w0 : World) (k b jb g : Nat) (L : List ByteArray) (A : List (Nat × Nat)) (want : List ByteArray) (wr : World) : Prop :=
  JK w0 wr b jb (rs L A) (k + 1) false (fun x => x = g) ∧ Strs wr (some ⟨g, 0, none⟩) want ∧ want.length = 128 ∧ L.length = 128 ∧ freeQ L want ∧ (∀ t ∈ L, t.size = 256) ∧ L.getD 1 ByteArray.empty = headB k [] ∧ A.length ≤ 2 + 38 * k
theorem L0_size : ∀ t ∈ L0, t.size = 256 := fun t ht => by
  rcases List.mem_or_eq_of_mem_set ht with q | q
  · rw [List.eq_of_mem_replicate q]; exact zero256_size
  · rw [q]; exact headB_size 0 [] (by simp)
theorem Wls.fence0 {w w' : World} {p : Option Addr} {l : List Wr1} {X : Nat → Prop} (h : Wls w p l) (ho : Only (fun x => ¬ X x) w w') (hp : 0 < l.length → ∀ g o, p = some ⟨g, o, none⟩ → X g) : Wls w' p l := by
  by_cases h0 : 0 < l.length
  · exact h.fence ho (hp h0)
  · intro j hj; omega
theorem imageK {w0 w : World} {b jb : Nat} {L : List ByteArray} {A : List (Nat × Nat)} {nx : Nat} {lost : Bool} {X : Nat → Prop} (h : JK w0 w b jb (rs L A) nx lost X) (hL : L.length = 128) : Calls Tryz.prog 13 #[.pointer (some ⟨b, 0, none⟩)] w fun e w' => ∃ g cap, e = .returned (.slice (some ⟨g, 0, none⟩) 128 cap) ∧ w.heap.size ≤ g ∧ g < w'.heap.size ∧ Strs w' (some ⟨g, 0, none⟩) L ∧ Below w.heap.size w w' := by
  obtain ⟨v, h1, _⟩ := h
  refine (image_any w _ b v _ h1 (by show 0 < L.length; omega) (by show L.length ≤ 1024; omega)).mono ?_
  rintro e w' ⟨v', rfl, hr, hb⟩
  have hr' : w'.ownsRow w.heap.size 9 1 v' L.length (strs L) := hr
  obtain ⟨g, cap, e, hg1, hg2⟩ := hr'.form (by omega)
  obtain ⟨p', c', e2, hs⟩ := Strs.own hr'
  rw [e] at e2
  simp at e2
  obtain ⟨rfl, rfl⟩ := e2
  have hlt := hr'.lt g (by rw [e]; rfl)
  exact ⟨g, cap, by rw [e, hL], hlt.1, hlt.2, hs, hb⟩
theorem load128 (w : World) (p : Option Addr) (c : Nat) (L : List ByteArray) (hL : L.length = 128) (hs : ∀ t ∈ L, t.size = 256) (h : Strs w p L) : Calls Tryz.prog 24 #[.slice p 128 c] w fun e w' => ∃ b v, e = .returned (.tuple #[.pointer (some ⟨b, 0, none⟩), .int .i64 0]) ∧ Dk w' w.heap.size b v (rs L []) ∧ Below w.heap.size w w' := by
  have := load_any p c L w h
  rw [hL] at this
  refine this.mono ?_
  intro e w' hP
  rw [LoadPost, if_pos ⟨by omega, by omega⟩, if_pos hs] at hP
  exact hP
/-- What a list is to the fence: its block, if it has any write. -/
def Xl (g : Nat) (q : Option Addr) (l : List Wr1) (x : Nat) : Prop := x = g ∨ (0 < l.length ∧ ∃ o, q = some ⟨x, o, none⟩)
end Go.Proofs.YtnfcnpolflfpfaaGreatDoor

namespace Go.Proofs.YtnfcnpolflfpfaaGreatDoor
open Go.ChangeShapes Go.WideShapes Go.ChangeAt Go.RowKit
theorem own : ownKnob Tryz.prog.godebug = none := by kernel_rfl
theorem laidOut : laidOutB Tryz.prog = true := by kernel_rfl
theorem gEt : Tryz.prog.globalNamed "errors.errorType" = some 1 := by kernel_rfl
theorem gRt : (Tryz.prog.cutTypes.find? (·.1 == "internal/reflectlite.rtype")).map (·.2) = some 302 := by kernel_rfl
theorem gOne : ((List.range 341).filter fun t => Tryz.prog.rowNamed t [101, 114, 114, 111, 114]) = [183] := by kernel_rfl
theorem gSize : Tryz.prog.types.size = 341 := by kernel_rfl
def laidL : List (String × DataW Unit) := [("errors.errorType", Rows.laid_errors_errorType)]
theorem wf_I64 {z : Int} (h : (Lit.int .i64 z).wf = true) : I64 z := by
  simpa [I64, Lit.wf, IntKind.min, IntKind.max, IntKind.signed, IntKind.bits] using h
/-- What the row's list gives. -/
theorem ety_of {W : World} (h : laidMetH Tryz.prog laidL W) : ETy W := by
  have h' : laidMet Tryz.prog [] W ∧ handlesMet Tryz.prog laidL W := h
  obtain ⟨name, u, ty, e1, e2, e3, e4, e5⟩ := h'.2 _ (List.mem_singleton.2 rfl)
  have en : name = [101, 114, 114, 111, 114] := (Option.some.inj e1).symm
  subst en
  obtain rfl := Option.some.inj (gRt.symm.trans e2)
  have hm : ty ∈ (List.range 341).filter fun t => Tryz.prog.rowNamed t [101, 114, 114, 111, 114] := List.mem_filter.2 ⟨List.mem_range.2 (by rw [← gSize]; exact e3), e4⟩
  rw [gOne] at hm
  obtain rfl := List.mem_singleton.1 hm
  have hh : typeHandle Tryz.prog 183 = .pointer (some ⟨2, 183, none⟩) := by kernel_rfl
  rw [hh] at e5
  have := World.var?_cell gEt e5 0
  unfold ETy
  simpa using this
/-- A world for the witness: the settled one, the variable's cell laid. -/
noncomputable def laidWorld (os : Os) : World :=
  let w0 := World.holding Tryz.prog os ⟨#[], #[], []⟩
  { w0 with heap := w0.heap.modify 1 fun
      | .cells _ t frozen => .cells #[.iface 302 (.agg #[.pointer (some ⟨2, 183, none⟩)])] t frozen
      | o => o }
end Go.Proofs.YtnfcnpolflfpfaaGreatDoor

namespace Go.Proofs.YtnfcnpolflfpfaaGreatDoor
open Go.RowKit
/-- Steps of a script that lie in memory. -/
structure Op6 where
  kind : Int
  n : Int
  s : ByteArray
def op60 : Op6 := ⟨0, 0, ⟨#[]⟩⟩
instance : Inhabited Op6 := ⟨op60⟩
def Ops6 (w : World) (p : Option Addr) (l : List Op6) : Prop := ∀ i, i < l.length → ∃ g o v, p = some ⟨g, o, none⟩ ∧ g < w.heap.size ∧ w.cell? ⟨g, o + i * 4, none⟩ = some (.int .i64 (l.getD i op60).kind) ∧ w.cell? ⟨g, o + i * 4 + 1, none⟩ = some (.int .i64 (l.getD i op60).n) ∧ w.cell? ⟨g, o + i * 4 + 2, none⟩ = some (.string (l.getD i op60).s) ∧ w.cell? ⟨g, o + i * 4 + 3, none⟩ = some v ∧ ∃ sp sl sc, v = .slice sp sl sc
theorem Ops6.below {w w' : World} {B : Nat} {p : Option Addr} {l : List Op6} (h : Ops6 w p l) (hb : Below B w w') (hB : w.heap.size ≤ B) : Ops6 w' p l := fun i hi => by
  obtain ⟨g, o, v, e, hg, h0, h1, h2, h3, h4⟩ := h i hi
  exact ⟨g, o, v, e, Nat.lt_of_lt_of_le hg hb.size, (hb.cell (p := ⟨g, o + i * 4, none⟩) (by show g < B; omega)).trans h0, (hb.cell (p := ⟨g, o + i * 4 + 1, none⟩) (by show g < B; omega)).trans h1, (hb.cell (p := ⟨g, o + i * 4 + 2, none⟩) (by show g < B; omega)).trans h2, (hb.cell (p := ⟨g, o + i * 4 + 3, none⟩) (by show g < B; omega)).trans h3, h4⟩
theorem bulk_app6 {H : Type} : ∀ (l m : List (DataW H)), Rows.uptoBulkAll (l ++ m) = Rows.uptoBulkAll l + Rows.uptoBulkAll m
  | [], m => by simp [Rows.uptoBulkAll]
  | d :: l, m => by simp only [List.cons_append, Rows.uptoBulkAll, bulk_app6 l m]; omega
theorem bulk_len6 {H : Type} (D : Nat → DataW H) : ∀ n, (∀ i, i < n → 5 ≤ Rows.uptoBulk (D i)) → 5 * n ≤ Rows.uptoBulkAll ((List.range n).map D)
  | 0, _ => Nat.zero_le _
  | n + 1, h => by
    have h1 := bulk_len6 D n (fun i hi => h i (by omega))
    have h2 := h n (by omega)
    rw [List.range_succ, List.map_append, bulk_app6]
    simp only [List.map_cons, List.map_nil, Rows.uptoBulkAll]
    omega
theorem bulk_each6 {H : Type} (D : Nat → DataW H) : ∀ n i, i < n → Rows.uptoBulk (D i) ≤ Rows.uptoBulkAll ((List.range n).map D)
  | n + 1, i, h => by
    rw [List.range_succ, List.map_append, bulk_app6]
    simp only [List.map_cons, List.map_nil, Rows.uptoBulkAll]
    by_cases hi : i < n
    · have := bulk_each6 D n i hi; omega
    · obtain rfl : i = n := by omega
      omega
theorem bulk_pos6 {H : Type} (d : DataW H) : 1 ≤ Rows.uptoBulk d := by
  cases d with
  | lit l => cases l <;> simp [Rows.uptoBulk]
  | _ => simp [Rows.uptoBulk]
def Wop (l : List Op6) : Prop := ∀ i, I64 (l.getD i op60).kind ∧ I64 (l.getD i op60).n
end Go.Proofs.YtnfcnpolflfpfaaGreatDoor

namespace Go.Proofs.YtnfcnpolflfpfaaGreatDoor
open Go.RowKit
theorem dies_two {s : DSt} (h : 1 < s.fuse) : diesS s = { s with fuse := s.fuse - 1, dead := false } := by
  rw [diesS, if_pos (by omega), decide_eq_false (by omega)]
theorem dies_one {s : DSt} (h : s.fuse = 1) : diesS s = { s with fuse := 0, dead := true } := by
  rw [diesS, if_pos (by omega), decide_eq_true h, h]
  rfl
theorem write_two {s : DSt} (h : 1 < s.fuse) (hd : s.dead = false) (j : Nat) (hj : j < s.last.length) (t : ByteArray) (ht : t.size = 256) : writeE s (j : Int) t = 0 ∧ writeS s (j : Int) t = { s with now := s.now.set j t, pend := s.pend ++ [(j, t)], acts := s.acts ++ [(0, j)], fuse := s.fuse - 1 } := by
  have hi : isOk s (j : Int) := ⟨by omega, by omega⟩
  have e := dies_two h
  have hq : ¬ (diesS s).dead = true := by rw [e]; exact Bool.false_ne_true
  rw [writeE, writeS, if_pos hi, if_pos hi, if_pos ht, if_pos ht, if_neg hq, if_neg hq, e, Int.toNat_natCast, ← hd]
  exact ⟨rfl, rfl⟩
theorem write_one {s : DSt} (h : s.fuse = 1) (j : Nat) (hj : j < s.last.length) (t : ByteArray) (ht : t.size = 256) : writeE s (j : Int) t = 2 ∧ writeS s (j : Int) t = { s with fuse := 0, dead := true } := by
  have hi : isOk s (j : Int) := ⟨by omega, by omega⟩
  have e := dies_one h
  have hq : (diesS s).dead = true := by rw [e]
  rw [writeE, writeS, if_pos hi, if_pos hi, if_pos ht, if_pos ht, if_pos hq, if_pos hq, e]
  exact ⟨rfl, rfl⟩
/-- Writes on a disk that is armed, and lives through them. -/
theorem lay_armed (l : List Wr1) : ∀ (s : DSt), s.dead = false → (l.length : Int) + 1 < s.fuse → OkW s.last.length l → layR s l = (0, ⟨layP s.last (s.pend ++ natW l), layP s.now (natW l), [], s.acts ++ actW l ++ [(1, 0)], s.fuse - ((l.length : Int) + 1), false⟩) := by
  induction l with
  | nil =>
    intro s h hf _
    have e := dies_two (s := s) (by simpa using hf)
    have hq : ¬ (diesS s).dead = true := by rw [e]; exact Bool.false_ne_true
    rw [layR, flushE, flushS, if_neg hq, if_neg hq, e]
    simp [natW, actW, layP]
  | cons x r ih =>
    intro s h hf hk
    obtain ⟨x1, x2⟩ := x
    obtain ⟨k1, k2, k3⟩ := hk (x1, x2) (by simp)
    obtain ⟨j, hj⟩ : ∃ j : Nat, x1 = (j : Int) := ⟨x1.toNat, by omega⟩
    subst hj
    rw [List.length_cons] at hf
    obtain ⟨a1, a2⟩ := write_two (s := s) (by omega) h j (by omega) x2 k3
    rw [layR, if_pos a1, a2]
    refine (ih { s with now := s.now.set j x2, pend := s.pend ++ [(j, x2)], acts := s.acts ++ [(0, j)], fuse := s.fuse - 1 } h (by show _ < s.fuse - 1; omega) (fun y hy => hk y (by simp [hy]))).trans ?_
    simp [natW, actW, layP]
    omega
/-- Writes on a disk that dies among them. -/
theorem lay_dies (l : List Wr1) : ∀ (s : DSt) (f : Nat), s.dead = false → s.fuse = (f : Int) + 1 → f ≤ l.length → OkW s.last.length l → layR s l = (2, ⟨s.last, layP s.now (natW (l.take f)), s.pend ++ natW (l.take f), s.acts ++ actW (l.take f), 0, true⟩) := by
  induction l with
  | nil =>
    intro s f h hf hle _
    have hf0 : f = 0 := by simpa using hle
    subst hf0
    have e := dies_one (s := s) (by rw [hf]; rfl)
    have hq : (diesS s).dead = true := by rw [e]
    rw [layR, flushE, flushS, if_pos hq, if_pos hq, e]
    simp [natW, actW, layP]
  | cons x r ih =>
    intro s f h hf hle hk
    obtain ⟨x1, x2⟩ := x
    obtain ⟨k1, k2, k3⟩ := hk (x1, x2) (by simp)
    obtain ⟨j, hj⟩ : ∃ j : Nat, x1 = (j : Int) := ⟨x1.toNat, by omega⟩
    subst hj
    cases f with
    | zero =>
      obtain ⟨a1, a2⟩ := write_one (s := s) (by rw [hf]; rfl) j (by omega) x2 k3
      rw [layR, if_neg (by rw [a1]; decide), a1, a2]
      simp [natW, actW, layP]
    | succ f =>
      obtain ⟨a1, a2⟩ := write_two (s := s) (by omega) h j (by omega) x2 k3
      rw [layR, if_pos a1, a2]
      refine (ih { s with now := s.now.set j x2, pend := s.pend ++ [(j, x2)], acts := s.acts ++ [(0, j)], fuse := s.fuse - 1 } f h (by show s.fuse - 1 = _; rw [hf]; omega) (by simpa using hle) (fun y hy => hk y (by simp [hy]))).trans ?_
      simp [natW, actW, layP]
/-- The image of a disk whose head is set. -/
def midL (L : List ByteArray) (nx : Nat) (l : List Wr1) : List ByteArray := layP (layP L (natW (recL (filled l)))) [(1, headB nx (secs (filled l)))]
theorem midL_len (L : List ByteArray) (nx : Nat) (l : List Wr1) : (midL L nx l).length = L.length := by simp only [midL, layP_len]
theorem natW_head (n : Nat) (H : List Int) : natW [(1, headB n H)] = [(1, headB n H)] := rfl
/-- A commit on a disk that dies behind the head is set. -/
theorem commit_20 (L : List ByteArray) (A : List (Nat × Nat)) (nx : Nat) (l : List Wr1) (hL : L.length = 128) (h : GoodL l) : ∃ A', A'.length = A.length + 19 ∧ commitR (armS (rs L A) 20) nx false l = ⟨2, ⟨midL L nx l, midL L nx l, [], A', 0, true⟩, nx, true⟩ := by
  have h16 := filled_len l h.len
  have hr : refE l (((armS (rs L A) 20).last.length : Nat) : Int) = 0 := by
    show refE l ((L.length : Nat) : Int) = 0
    rw [hL]
    exact h.ref
  have e0 : armS (rs L A) 20 = ⟨L, L, [], A, 20, false⟩ := rfl
  have e1 := lay_armed (recL (filled l)) ⟨L, L, [], A, 20, false⟩ rfl (by rw [recL_len, h16]; show (17 : Int) < 20; decide) (by show OkW L.length _; rw [hL]; exact rec_ok l h)
  have e2 := lay_armed [(1, headB nx (secs (filled l)))] ⟨layP L (natW (recL (filled l))), layP L (natW (recL (filled l))), [], A ++ actW (recL (filled l)) ++ [(1, 0)], 3, false⟩ rfl (show (2 : Int) < 3 by decide) (head_ok _ (by show 1 < (layP L _).length; rw [layP_len, hL]; decide) nx _ (by rw [secs16 l h]; decide))
  have e3 := lay_dies (filled l) ⟨midL L nx l, midL L nx l, [], A ++ actW (recL (filled l)) ++ [(1, 0)] ++ actW [(1, headB nx (secs (filled l)))] ++ [(1, 0)], 1, false⟩ 0 rfl rfl (Nat.zero_le _) (by show OkW (midL L nx l).length _; rw [midL_len, hL]; exact fill_ok l h)
  refine ⟨A ++ actW (recL (filled l)) ++ [(1, 0)] ++ actW [(1, headB nx (secs (filled l)))] ++ [(1, 0)], by simp [actW, recL_len, h16], ?_⟩
  have f1 : layR ⟨L, L, [], A, 20, false⟩ (recL (filled l)) = (0, ⟨layP L (natW (recL (filled l))), layP L (natW (recL (filled l))), [], A ++ actW (recL (filled l)) ++ [(1, 0)], 3, false⟩) := by
    rw [e1, recL_len, h16]
    rfl
  have f2 : layR ⟨layP L (natW (recL (filled l))), layP L (natW (recL (filled l))), [], A ++ actW (recL (filled l)) ++ [(1, 0)], 3, false⟩ [(1, headB nx (secs (filled l)))] = (0, ⟨midL L nx l, midL L nx l, [], A ++ actW (recL (filled l)) ++ [(1, 0)] ++ actW [(1, headB nx (secs (filled l)))] ++ [(1, 0)], 1, false⟩) := by
    rw [e2]
    rfl
  have f3 : layR ⟨midL L nx l, midL L nx l, [], A ++ actW (recL (filled l)) ++ [(1, 0)] ++ actW [(1, headB nx (secs (filled l)))] ++ [(1, 0)], 1, false⟩ (filled l) = (2, ⟨midL L nx l, midL L nx l, [], A ++ actW (recL (filled l)) ++ [(1, 0)] ++ actW [(1, headB nx (secs (filled l)))] ++ [(1, 0)], 0, true⟩) := by
    rw [e3]
    simp [natW, actW, layP]
  have hR : runsR (armS (rs L A) 20) (runsOf nx l) = (2, ⟨midL L nx l, midL L nx l, [], A ++ actW (recL (filled l)) ++ [(1, 0)] ++ actW [(1, headB nx (secs (filled l)))] ++ [(1, 0)], 0, true⟩) := by
    rw [e0, runsOf, runsR, f1, if_pos rfl, runsR]
    simp only
    rw [f2, if_pos rfl, runsR]
    simp only
    rw [f3, if_neg (show ¬ (2 : Int) = 0 by decide)]
  rw [commitR, hr, if_neg (by simp), if_neg (by decide), hR, if_neg (show ¬ (2 : Int) = 0 by decide)]
theorem crash_20 (M : List ByteArray) (A : List (Nat × Nat)) : crashE ⟨M, M, [], A, 0, true⟩ [] = 0 ∧ crashS ⟨M, M, [], A, 0, true⟩ [] = rs M A := by
  obtain ⟨h1, h2⟩ := crash_nil ⟨M, M, [], A, 0, true⟩
  exact ⟨h1, h2⟩
theorem mid_head (L : List ByteArray) (nx : Nat) (l : List Wr1) (hL : 1 < L.length) : (midL L nx l).getD 1 ByteArray.empty = headB nx (secs (filled l)) := by
  unfold midL
  exact getD_set_same _ 1 _ (by rw [layP_len]; exact hL)
/-- Each record lies where it belongs. -/
theorem lay_recs (R : List Wr1) : ∀ (m : Nat) (L : List ByteArray), m ≤ R.length → 2 + R.length ≤ L.length → ∀ i, i < m → (layP L (natW ((recL R).take m))).getD (2 + i) ByteArray.empty = (R.getD i wr0).2
  | 0, _, _, _, i, hi => absurd hi (Nat.not_lt_zero i)
  | m + 1, L, hm, hL, i, hi => by
    have hmr : m < (recL R).length := by rw [recL_len]; omega
    have e : (recL R).take (m + 1) = (recL R).take m ++ [(((2 + m : Nat) : Int), (R.getD m wr0).2)] := by
      rw [List.take_succ_eq_append_getElem hmr, ← getD_of hmr, recL_at R m (by omega)]
    have e2 : natW [(((2 + m : Nat) : Int), (R.getD m wr0).2)] = [(2 + m, (R.getD m wr0).2)] := by
      show [((((2 + m : Nat) : Int)).toNat, (R.getD m wr0).2)] = _
      rw [Int.toNat_natCast]
    rw [e, natW_app, e2, layP_snoc]
    by_cases h : i = m
    · subst h
      exact getD_set_same _ _ _ (by rw [layP_len]; omega)
    · rw [getD_set_other _ _ _ _ (by omega)]
      exact lay_recs R m L (by omega) hL i (by omega)
theorem mid_rec (L : List ByteArray) (nx : Nat) (l : List Wr1) (hL : L.length = 128) (hl : l.length ≤ 16) (i : Nat) (hi : i < 16) : (midL L nx l).getD (2 + i) ByteArray.empty = ((filled l).getD i wr0).2 := by
  have h16 := filled_len l hl
  unfold midL
  rw [layP_skip [(1, headB nx (secs (filled l)))] _ (2 + i) (by intro p hp; simp at hp; subst hp; show 1 ≠ 2 + i; omega)]
  have := lay_recs (filled l) 16 L (by omega) (by omega) i hi
  rwa [List.take_of_length_le (by rw [recL_len]; omega)] at this
theorem mid_size (L : List ByteArray) (nx : Nat) (l : List Wr1) (hl : GoodL l) (h : ∀ t ∈ L, t.size = 256) : ∀ t ∈ midL L nx l, t.size = 256 := by
  unfold midL
  refine layP_size _ _ (layP_size _ _ h (natW_size (rec_ok l hl))) (fun p hp => ?_)
  simp at hp; subst hp; exact headB_size nx _ (by rw [secs16 l hl]; decide)
theorem homes_ok (l : List Wr1) (h : GoodL l) : HomesOk 128 (secs (filled l)) := fun a z r e => by
  have hs : secs (filled l) = secs l ++ List.replicate (16 - l.length) 18 := by simp [secs, filled, fillW]
  have hz : z ∈ secs (filled l) := by rw [e]; simp
  rw [hs] at hz e
  have hrng : z = 18 ∨ (19 ≤ z ∧ z < 128 ∧ z ∈ secs l) := by
    rcases List.mem_append.1 hz with q | q
    · obtain ⟨x, hx, rfl⟩ := List.mem_map.1 q
      have := h.free x hx
      exact .inr ⟨this.1, this.2, q⟩
    · exact .inl (List.eq_of_mem_replicate q)
  refine ⟨fun hb => ?_, by omega, by omega⟩
  obtain ⟨b1, b2⟩ := hb
  rcases hrng with q | ⟨q1, q2, q3⟩
  · exact b1 q
  · rcases b2 with b2 | b2
    · exact b2 ⟨q1, q2⟩
    · have f1 : (secs l ++ List.replicate (16 - l.length) 18).filter (fun x => x != 18) = secs l := by
        rw [List.filter_append, List.filter_eq_self.2, List.filter_eq_nil_iff.2, List.append_nil]
        · intro x hx
          rw [List.eq_of_mem_replicate hx]
          decide
        · intro x hx
          obtain ⟨y, hy, rfl⟩ := List.mem_map.1 hx
          have := h.free y hy
          simp
          omega
      rw [e, List.filter_append, List.filter_cons_of_pos (by simp; omega)] at f1
      have hn := h.nodup
      rw [← f1] at hn
      obtain ⟨_, _, hd⟩ := List.nodup_append.1 hn
      exact hd z (List.mem_filter.2 ⟨b2, by simp; omega⟩) z (by simp) rfl
theorem redo_mid (L : List ByteArray) (nx : Nat) (l : List Wr1) (hL : L.length = 128) (h : GoodL l) : redoL (rs (midL L nx l) []) (secs (filled l)) = filled l := by
  have h16 := filled_len l h.len
  have hs : (secs (filled l)).length = 16 := secs16 l h
  refine List.ext_getElem (by rw [redoL_len, hs, h16]) (fun i h1 h2 => ?_)
  have hi : i < 16 := by omega
  rw [← getD_of h1, ← getD_of h2, redoL_at _ _ i (by omega), secs_at _ i (by omega), (read_rs _ _ (2 + i) (by rw [midL_len, hL]; omega)).2, mid_rec L nx l hL h.len i hi]
theorem redoR_mid (L : List ByteArray) (nx : Nat) (l : List Wr1) (hL : L.length = 128) (h : GoodL l) : redoR (rs (midL L nx l) []) nx (secs (filled l)) = (0, rs (comL L nx l) ([] ++ actW (filled l) ++ [(1, 0)] ++ actW [(1, headB nx [])] ++ [(1, 0)])) := by
  have e1 := lay_rs (midL L nx l) [] (filled l) (by rw [midL_len, hL]; exact fill_ok l h)
  have e2 := lay_rs (layP (midL L nx l) (natW (filled l))) ([] ++ actW (filled l) ++ [(1, 0)]) [(1, headB nx [])] (head_ok _ (by rw [layP_len, midL_len, hL]; decide) nx _ (by simp))
  rw [redoR, redo_mid L nx l hL h, e1, if_pos rfl]
  simp only
  rw [e2]
  rfl
end Go.Proofs.YtnfcnpolflfpfaaGreatDoor

namespace Go.Proofs.YtnfcnpolflfpfaaGreatDoor
open Go.RowKit
theorem JK.dpost {w0 w w' : World} {b jb : Nat} {v : DV} {s s' : DSt} {nx : Nat} {lost : Bool} {X : Nat → Prop} (h1 : Dk w w0.heap.size b v s) (h2 : Jb w jb b nx lost) (h3 : ¬ Fd b v jb) (h4 : w0.heap.size ≤ jb) (h5 : Below w0.heap.size w0 w) (hs : Sane s') (h7 : ∀ x, X x → ¬ Fd b v x ∧ x ≠ jb ∧ x < w.heap.size) (hP : DPost w0.heap.size b v s' w w') : JK w0 w' b jb s' nx lost X ∧ Only (fun x => ¬ X x) w w' := by
  obtain ⟨v', k1, k2, k3⟩ := hP
  refine ⟨⟨v', k1, Blk.only h2 k2 h3, fun q => ?_, h4, DI.only h1 h5 k2, hs, fun x hx => ?_⟩, k2.widen (fun k _ q r => (h7 k r).1 q)⟩
  · rcases k3 jb q with r | r
    · exact h3 r
    · have := Blk.lt h2; omega
  · obtain ⟨a1, a2, a3⟩ := h7 x hx
    refine ⟨fun q => ?_, a2, Nat.lt_of_lt_of_le a3 k2.size⟩
    rcases k3 x q with r | r
    · exact a1 r
    · omega
theorem crashK {w0 w : World} {b jb : Nat} {s : DSt} {nx : Nat} {lost : Bool} {X : Nat → Prop} (h : JK w0 w b jb s nx lost X) (hp : s.pend.length ≤ 1000000000) (p : Option Addr) (l : List Int) (n c : Nat) (hn : n = l.length) (hl : Ints w p l) (hll : l.length ≤ 9223372036854775807) :
    Calls Tryz.prog 30 #[.pointer (some ⟨b, 0, none⟩), .slice p n c] w fun e w' => e = .returned (.int .i64 (crashE s l)) ∧ JK w0 w' b jb (crashS s l) nx lost X ∧ Only (fun x => ¬ X x) w w' := by
  subst hn
  obtain ⟨v, h1, h2, h3, h4, h5, h6, h7⟩ := h
  refine (crash_any w _ b v s h1 h5.size h6 hp p l c hl hll).mono ?_
  rintro ev w' ⟨rfl, hP⟩
  exact ⟨rfl, JK.dpost h1 h2 h3 h4 h5 (h6.crash l) h7 hP⟩
theorem armK {w0 w : World} {b jb : Nat} {s : DSt} {nx : Nat} {lost : Bool} {X : Nat → Prop} (h : JK w0 w b jb s nx lost X) (n : Int) (hn : n ≤ 9223372036854775807) :
    Calls Tryz.prog 27 #[.pointer (some ⟨b, 0, none⟩), .int .i64 n] w fun e w' => e = .returned (.int .i64 (armE s n)) ∧ JK w0 w' b jb (armS s n) nx lost X ∧ Only (fun x => ¬ X x) w w' := by
  obtain ⟨v, h1, h2, h3, h4, h5, h6, h7⟩ := h
  refine (arm_any w _ b v s h1 n).mono ?_
  rintro ev w' ⟨rfl, g1, g2⟩
  exact ⟨rfl, JK.dpost h1 h2 h3 h4 h5 (h6.arm n hn) h7 ⟨v, g1, g2, fun _ q => .inl q⟩⟩
/-- Open of a disk that died behind the head was set. -/
theorem openM {w : World} {base b : Nat} {v : DV} {L : List ByteArray} {nx : Nat} {l : List Wr1} (h : Dk w base b v (rs (midL L nx l) [])) (hg : ETy w) (hb : base ≤ w.heap.size) (hL : L.length = 128) (hl : GoodL l) (hn : nx < 4294967296) :
    Calls Tryz.prog 69 #[.pointer (some ⟨b, 0, none⟩)] w fun e w' => ∃ jb, e = .returned (.tuple #[.pointer (some ⟨jb, 0, none⟩), .bool true, .int .i64 0]) ∧ ∃ v' A', Dk w' base b v' (rs (comL L nx l) A') ∧ Only (Fd b v) w w' := by
  have hML : (midL L nx l).length = 128 := by rw [midL_len, hL]
  obtain ⟨r1, r2⟩ := read_rs (midL L nx l) [] 1 (by omega)
  rw [show ((1 : Nat) : Int) = 1 from rfl] at r1 r2
  have hh := mid_head L nx l (by omega)
  have hS : Sane (rs (midL L nx l) []) := Sane.fresh (midL L nx l) (by omega) (by omega)
  have ht : (readT (rs (midL L nx l) []) 1).size ≤ 9223372036854775807 := by rw [r2, hh, headB_size nx _ (by rw [secs16 l hl]; decide)]; decide
  refine (open_any w base b v _ h hg hb hS ht (Nat.zero_le _) (Nat.zero_le _)).mono ?_
  intro e w' hP
  rcases hP with ⟨q, _⟩ | ⟨_, n', H, ok, hn', hR, hc⟩
  · exact absurd r1 q
  · rw [r2, hh, show (((rs (midL L nx l) []).last.length : Nat) : Int) = 128 by show (((midL L nx l).length : Nat) : Int) = 128; rw [hML]; rfl] at hR
    obtain ⟨e1, e2, e3⟩ := rhp_set nx hn 128 _ _ _ _ (secs16 l hl) (homes_ok l hl) hR
    have e1' : n' = nx := by omega
    subst e1' e2 e3
    rw [redoR_mid L n' l hL hl] at hc
    rcases hc with ⟨q, _⟩ | ⟨_, q, _⟩ | ⟨_, _, q, _⟩ | ⟨_, _, _, jb, ev, v', k1, _, _, _, k5, _⟩
    · cases q
    · rw [secs16 l hl] at q; cases q
    · exact absurd rfl q
    · exact ⟨jb, ev, v', _, k1, k5⟩
theorem filled_at (l : List Wr1) (h : l.length ≤ 16) (k : Nat) (hk : k < 16) : (filled l).getD k wr0 = if k < l.length then l.getD k wr0 else fillW := by
  by_cases hkl : k < l.length
  · rw [if_pos hkl, filled, List.getD_eq_getElem?_getD, List.getElem?_append_left hkl, List.getD_eq_getElem?_getD]
  · rw [if_neg hkl, filled, List.getD_eq_getElem?_getD, List.getElem?_append_right (by omega), List.getElem?_replicate, if_pos (by omega)]
    rfl
theorem out_snoc (H : List Int) (k : Nat) (hk : k < H.length) : [1] ++ outN 4 (H.take (k + 1)) = ([1] ++ outN 4 (H.take k)) ++ outN 4 [H.getD k 0] := by
  have e : H.take (k + 1) = H.take k ++ [H.getD k 0] := by
    rw [List.take_succ_eq_append_getElem hk]
    simp [List.getD_eq_getElem?_getD, hk]
  rw [e, List.append_assoc]
  simp [outN]
/-- The fence of a list alone. -/
def Xq (q : Option Addr) (l : List Wr1) (x : Nat) : Prop := 0 < l.length ∧ ∃ o, q = some ⟨x, o, none⟩
end Go.Proofs.YtnfcnpolflfpfaaGreatDoor

namespace Go.Proofs.YtnfcnpolflfpfaaGreatDoor
open Go.RowKit
def SmI (w : World) (k : Nat) (u : Value) (wr : World) : Prop := ∃ K : List Int, wr.ownsRow w.heap.size 3 1 u K.length (K.map (Value.int .i64)) ∧ (∀ x ∈ K, 0 ≤ x ∧ x < (k : Int)) ∧ K.length ≤ k ∧ Below w.heap.size w wr
def SmPost (w : World) (n : Nat) (e : Ending) (w' : World) : Prop := ∃ p c K, e = .returned (.slice p K.length c) ∧ Ints w' p K ∧ (∀ x ∈ K, 0 ≤ x ∧ x < (n : Int)) ∧ K.length ≤ n ∧ Below w.heap.size w w'
theorem ints_own {w : World} {base : Nat} {p : Option Addr} {m c : Nat} {K : List Int} (h : w.ownsRow base 3 1 (.slice p m c) K.length (K.map (Value.int .i64))) : Ints w p K := fun j hj => by
  obtain ⟨g, cap, ev, _⟩ := h.form (by omega)
  simp at ev
  obtain ⟨rfl, _⟩ := ev
  refine ⟨g, 0, rfl, (h.lt g rfl).2, ?_⟩
  rw [Nat.zero_add, (own_at h rfl j (by simpa using hj)).1]
  simp [List.getD_eq_getElem?_getD, hj]
end Go.Proofs.YtnfcnpolflfpfaaGreatDoor
