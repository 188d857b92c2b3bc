import Derived.Test.YtnfcnpolflfpfaaGreatDoorMr24
namespace Go.Proofs.YtnfcnpolflfpfaaGreatDoor
open Go.RowKit
/-- The image as it was: the head is clear, the free sectors are the old ones. -/
structure StO (O I : List ByteArray) : Prop where
  len : I.length = 128
  size : ∀ t ∈ I, t.size = 256
  head : I.getD 1 ByteArray.empty = headB 1 []
  free : freeQ I O
/-- The head is set, the records lie there; the homes are what they are. -/
structure StM (O : List ByteArray) (l : List Wr1) (I : List ByteArray) : Prop where
  len : I.length = 128
  size : ∀ t ∈ I, t.size = 256
  head : I.getD 1 ByteArray.empty = headB 2 (secs (filled l))
  recs : ∀ i, i < 16 → I.getD (2 + i) ByteArray.empty = ((filled l).getD i wr0).2
  rest : ∀ k, 19 ≤ k → (∀ p ∈ natW l, p.1 ≠ k) → I.getD k ByteArray.empty = O.getD k ByteArray.empty
/-- The commit is there. -/
structure StN (O : List ByteArray) (l : List Wr1) (I : List ByteArray) : Prop where
  len : I.length = 128
  size : ∀ t ∈ I, t.size = 256
  head : I.getD 1 ByteArray.empty = headB 2 []
  free : freeQ I (layP O (natW l))
theorem keep_mem : ∀ (ps : List (Nat × ByteArray)) (ks : List Bool) (p : Nat × ByteArray), p ∈ keepP ps ks → p ∈ ps
  | q :: r, true :: k, p, h => by
    rw [keepP] at h
    rcases List.mem_cons.1 h with e | e
    · exact List.mem_cons.2 (.inl e)
    · exact List.mem_cons.2 (.inr (keep_mem r k p e))
  | q :: r, false :: k, p, h => by
    rw [keepP] at h
    exact List.mem_cons.2 (.inr (keep_mem r k p h))
  | [], k, p, h => by simp [keepP] at h
  | _ :: _, [], p, h => by simp [keepP] at h
theorem StO.lay {O I : List ByteArray} (h : StO O I) (ps : List (Nat × ByteArray)) (hp : ∀ p ∈ ps, 2 ≤ p.1 ∧ p.1 < 18 ∧ p.2.size = 256) : StO O (layP I ps) := by
  refine ⟨by rw [layP_len]; exact h.len, layP_size _ _ h.size (fun p q => (hp p q).2.2), ?_, fun k h1 h2 => ?_⟩
  · rw [layP_skip _ _ 1 (fun p q => by have := hp p q; omega)]; exact h.head
  · rw [layP_len] at h2
    rw [layP_skip _ _ k (fun p q => by have := hp p q; omega)]
    exact h.free k h1 h2
theorem StM.lay {O I : List ByteArray} {l : List Wr1} (h : StM O l I) (hl : GoodL l) (ps : List (Nat × ByteArray)) (hp : ∀ p ∈ ps, p ∈ natW (filled l)) : StM O l (layP I ps) := by
  have hin : ∀ p ∈ ps, (p.1 = 18 ∨ ∃ q ∈ natW l, q.1 = p.1) ∧ 18 ≤ p.1 ∧ p.2.size = 256 := fun p hq => by
    have hm := hp p hq
    have hsz := natW_size (fill_ok l hl) p hm
    rw [filled, natW_app] at hm
    rcases List.mem_append.1 hm with r | r
    · refine ⟨.inr ⟨p, r, rfl⟩, ?_, hsz⟩
      obtain ⟨x, hx, rfl⟩ := List.mem_map.1 r
      have := hl.free x hx
      show 18 ≤ x.1.toNat
      omega
    · obtain ⟨x, hx, rfl⟩ := List.mem_map.1 r
      have := List.eq_of_mem_replicate hx
      subst this
      exact ⟨.inl rfl, Nat.le_refl 18, hsz⟩
  refine ⟨by rw [layP_len]; exact h.len, layP_size _ _ h.size (fun p q => (hin p q).2.2), ?_, fun i hi => ?_, fun k h1 h2 => ?_⟩
  · rw [layP_skip _ _ 1 (fun p q => by have := (hin p q).2.1; omega)]; exact h.head
  · rw [layP_skip _ _ (2 + i) (fun p q => by have := (hin p q).2.1; omega)]; exact h.recs i hi
  · rw [layP_skip _ _ k (fun p q => ?_)]
    · exact h.rest k h1 h2
    · rcases (hin p q).1 with r | ⟨q', hq', r⟩
      · omega
      · rw [← r]; exact h2 q' hq'
/-- A sector that is written has what was written last, whatever it had before. -/
theorem layP_any (ps : List (Nat × ByteArray)) : ∀ (L M : List ByteArray) (k : Nat), L.length = M.length → k < L.length → (∃ p ∈ ps, p.1 = k) → (layP L ps).getD k ByteArray.empty = (layP M ps).getD k ByteArray.empty := by
  induction ps with
  | nil => intro L M k _ _ h; obtain ⟨p, hp, _⟩ := h; cases hp
  | cons q r ih =>
    intro L M k hlm hk h
    show (layP (L.set q.1 q.2) r).getD k _ = (layP (M.set q.1 q.2) r).getD k _
    by_cases hr : ∃ p ∈ r, p.1 = k
    · exact ih _ _ k (by simp [hlm]) (by simpa using hk) hr
    · have hq : q.1 = k := by
        obtain ⟨p, hp, e⟩ := h
        rcases List.mem_cons.1 hp with rfl | hp
        · exact e
        · exact absurd ⟨p, hp, e⟩ hr
      have hno : ∀ p ∈ r, p.1 ≠ k := fun p hp e => hr ⟨p, hp, e⟩
      rw [layP_skip r _ k hno, layP_skip r _ k hno, hq, getD_set_same _ _ _ hk, getD_set_same _ _ _ (by omega)]
/-- All homes are written, and the head is cleared: the commit is there. -/
theorem StM.done {O I : List ByteArray} {l : List Wr1} (h : StM O l I) (hl : GoodL l) (hO : O.length = 128) : StN O l (layP (layP I (natW (filled l))) [(1, headB 2 [])]) := by
  have hM := h.lay hl (natW (filled l)) (fun _ q => q)
  refine ⟨by rw [layP_len, layP_len]; exact h.len, layP_size _ _ hM.size (fun p hp => by simp at hp; subst hp; exact headB_size 2 [] (by simp)), ?_, fun k h1 h2 => ?_⟩
  · exact getD_set_same _ 1 _ (by rw [layP_len, h.len]; decide)
  · rw [layP_len, layP_len, h.len] at h2
    rw [layP_skip [(1, headB 2 [])] _ k (by intro p hp; simp at hp; subst hp; show 1 ≠ k; omega)]
    by_cases hk : ∃ p ∈ natW l, p.1 = k
    · have e : (layP I (natW (filled l))).getD k ByteArray.empty = (layP I (natW l)).getD k ByteArray.empty := by
        rw [filled, natW_app, layP_app, layP_skip (natW (List.replicate (16 - l.length) fillW)) _ k (by
          intro p hp
          obtain ⟨x, hx, rfl⟩ := List.mem_map.1 hp
          have := List.eq_of_mem_replicate hx
          subst this
          show 18 ≠ k
          omega)]
      rw [e]
      exact layP_any _ _ _ k (by rw [h.len, hO]) (by rw [h.len]; exact h2) hk
    · have hno : ∀ p ∈ natW l, p.1 ≠ k := fun p hp e => hk ⟨p, hp, e⟩
      rw [hM.rest k h1 hno, layP_skip _ _ k hno]
/-- The head that is set is written: the records lie there already. -/
theorem StM.of_mid {O : List ByteArray} {l : List Wr1} (hl : GoodL l) (hO : O.length = 128) (hs : ∀ t ∈ O, t.size = 256) : StM O l (midL O 2 l) := by
  refine ⟨by rw [midL_len]; exact hO, mid_size O 2 l hl hs, mid_head O 2 l (by omega), fun i hi => mid_rec O 2 l hO hl.len i hi, fun k h1 _ => ?_⟩
  unfold midL
  rw [layP_skip [(1, _)] _ k (by intro p hp; simp at hp; subst hp; show 1 ≠ k; omega), layP_skip _ _ k (by
    intro p hp
    obtain ⟨x, hx, rfl⟩ := List.mem_map.1 hp
    obtain ⟨i, hi, rfl⟩ := List.mem_map.1 hx
    have hi : i < (filled l).length := List.mem_range.1 hi
    rw [filled_len l hl.len] at hi
    show 2 + i ≠ k
    omega)]
theorem rec_range (l : List Wr1) (hl : GoodL l) : ∀ p ∈ natW (recL (filled l)), 2 ≤ p.1 ∧ p.1 < 18 ∧ p.2.size = 256 := fun p hp => by
  have hsz := natW_size (rec_ok l hl) p hp
  obtain ⟨x, hx, rfl⟩ := List.mem_map.1 hp
  obtain ⟨i, hi, rfl⟩ := List.mem_map.1 hx
  have hi : i < (filled l).length := List.mem_range.1 hi
  rw [filled_len l hl.len] at hi
  refine ⟨?_, ?_, hsz⟩
  · show 2 ≤ 2 + i; omega
  · show 2 + i < 18; omega
/-- What a disk that crashes may be: any of what was pending stays. -/
def Crashed (P : List ByteArray → Prop) (s : DSt) : Prop := ∀ ps, (∀ p ∈ ps, p ∈ s.pend) → ps.length ≤ s.pend.length → P (layP s.last ps)
theorem keep_len : ∀ (ps : List (Nat × ByteArray)) (ks : List Bool), (keepP ps ks).length ≤ ps.length
  | q :: r, true :: k => by rw [keepP]; simpa using keep_len r k
  | q :: r, false :: k => by rw [keepP]; exact Nat.le_succ_of_le (keep_len r k)
  | [], k => by simp [keepP]
  | _ :: _, [] => by simp [keepP]
theorem Crashed.crash {P : List ByteArray → Prop} {s : DSt} (h : Crashed P s) (K : List Int) (hK : ∀ z ∈ K, pickOk s.pend.length z) : crashE s K = 0 ∧ ∃ I, P I ∧ crashS s K = rs I s.acts := by
  refine ⟨by rw [crashE, if_pos hK], layP s.last (keepP s.pend (keptL s.pend.length K)), h _ (fun p hp => keep_mem _ _ p hp) (keep_len _ _), ?_⟩
  rw [crashS, if_pos hK]
  rfl
end Go.Proofs.YtnfcnpolflfpfaaGreatDoor

namespace Go.Proofs.YtnfcnpolflfpfaaGreatDoor
open Go.RowKit
/-- All of it, or nothing; and not nothing, if it must be there. -/
def StA (O : List ByteArray) (l : List Wr1) (must : Bool) (I : List ByteArray) : Prop := (StO O I ∧ must = false) ∨ StM O l I ∨ StN O l I
theorem StA.must {O : List ByteArray} {l : List Wr1} {I : List ByteArray} {m : Bool} (h : StA O l m I) (h2 : ¬ StO O I) (m' : Bool) : StA O l m' I := by
  rcases h with ⟨q, _⟩ | q
  · exact absurd q h2
  · exact .inr q
theorem StA.len {O : List ByteArray} {l : List Wr1} {I : List ByteArray} {m : Bool} (h : StA O l m I) : I.length = 128 := by
  rcases h with ⟨q, _⟩ | q | q
  · exact q.len
  · exact q.len
  · exact q.len
theorem StA.size {O : List ByteArray} {l : List Wr1} {I : List ByteArray} {m : Bool} (h : StA O l m I) : ∀ t ∈ I, t.size = 256 := by
  rcases h with ⟨q, _⟩ | q | q
  · exact q.size
  · exact q.size
  · exact q.size
theorem sub_nil {ps : List (Nat × ByteArray)} (h : ∀ p ∈ ps, p ∈ ([] : List (Nat × ByteArray))) : ps = [] := List.eq_nil_iff_forall_not_mem.2 (fun p hp => by have := h p hp; cases this)
theorem sub_one {x : Nat × ByteArray} {ps : List (Nat × ByteArray)} (h : ∀ p ∈ ps, p ∈ [x]) (hl : ps.length ≤ 1) : ps = [] ∨ ps = [x] := by
  match ps, hl with
  | [], _ => exact .inl rfl
  | [y], _ =>
    have := h y (by simp)
    simp at this
    rw [this]
    exact .inr rfl
theorem natW_take (l : List Wr1) (n : Nat) : natW (l.take n) = (natW l).take n := by simp [natW, List.map_take]
def hsetW (l : List Wr1) : Wr1 := (1, headB 2 (secs (filled l)))
def hclrW : Wr1 := (1, headB 2 [])
end Go.Proofs.YtnfcnpolflfpfaaGreatDoor

namespace Go.Proofs.YtnfcnpolflfpfaaGreatDoor
open Go.RowKit
/-- A disk behind w0, and a fence. -/
def DF (w0 w : World) (b : Nat) (s : DSt) (X : Nat → Prop) : Prop := ∃ v, Dk w w0.heap.size b v s ∧ Below w0.heap.size w0 w ∧ Sane s ∧ ∀ x, X x → ¬ Fd b v x ∧ x < w.heap.size
theorem JK.df {w0 w : World} {b jb : Nat} {s : DSt} {nx : Nat} {lost : Bool} {X : Nat → Prop} (h : JK w0 w b jb s nx lost X) : DF w0 w b s X := by
  obtain ⟨v, h1, h2, h3, h4, h5, h6, h7⟩ := h
  exact ⟨v, h1, h5, h6, fun x hx => ⟨(h7 x hx).1, (h7 x hx).2.2⟩⟩
theorem DF.bel {w0 w : World} {b : Nat} {s : DSt} {X : Nat → Prop} (h : DF w0 w b s X) : Below w0.heap.size w0 w := by
  obtain ⟨v, h1, h2, _⟩ := h
  exact h2
theorem DF.lt {w0 w : World} {b : Nat} {s : DSt} {X : Nat → Prop} (h : DF w0 w b s X) (x : Nat) (hx : X x) : x < w.heap.size := by
  obtain ⟨v, h1, h2, h3, h4⟩ := h
  exact (h4 x hx).2
theorem DF.di {w0 w : World} {b : Nat} {s : DSt} {X : Nat → Prop} (h : DF w0 w b s X) : DI w0 w b s := by
  obtain ⟨v, h1, h2, h3, h4⟩ := h
  exact ⟨v, h1, h2, h3⟩
theorem DF.below {w0 w w' : World} {b : Nat} {s : DSt} {X : Nat → Prop} (h : DF w0 w b s X) (hb : Below w.heap.size w w') : DF w0 w' b s X := by
  obtain ⟨v, h1, h2, h3, h4⟩ := h
  exact ⟨v, h1.below hb, h2.trans (hb.mono h2.size), h3, fun x hx => ⟨(h4 x hx).1, Nat.lt_of_lt_of_le (h4 x hx).2 hb.size⟩⟩
theorem DF.dpost {w0 w w' : World} {b : Nat} {v : DV} {s s' : DSt} {X : Nat → Prop} (h1 : Dk w w0.heap.size b v s) (h2 : Below w0.heap.size w0 w) (hs : Sane s') (h4 : ∀ x, X x → ¬ Fd b v x ∧ x < w.heap.size) (hP : DPost w0.heap.size b v s' w w') : DF w0 w' b s' X ∧ Only (fun x => ¬ X x) w w' := by
  obtain ⟨v', k1, k2, k3⟩ := hP
  refine ⟨⟨v', k1, DI.only h1 h2 k2, hs, fun x hx => ⟨fun q => ?_, Nat.lt_of_lt_of_le (h4 x hx).2 k2.size⟩⟩, k2.widen (fun k _ q r => (h4 k r).1 q)⟩
  rcases k3 x q with r | r
  · exact (h4 x hx).1 r
  · have := (h4 x hx).2; omega
theorem crashF {w0 w : World} {b : Nat} {s : DSt} {X : Nat → Prop} (h : DF w0 w b s X) (hp : s.pend.length ≤ 1000000000) (p : Option Addr) (l : List Int) (n c : Nat) (hn : n = l.length) (hl : Ints w p l) (hll : l.length ≤ 9223372036854775807) :
    Calls Tryz.prog 30 #[.pointer (some ⟨b, 0, none⟩), .slice p n c] w fun e w' => e = .returned (.int .i64 (crashE s l)) ∧ DF w0 w' b (crashS s l) X ∧ Only (fun x => ¬ X x) w w' := by
  subst hn
  obtain ⟨v, h1, h2, h3, h4⟩ := h
  refine (crash_any w _ b v s h1 h2.size h3 hp p l c hl hll).mono ?_
  rintro ev w' ⟨rfl, hP⟩
  exact ⟨rfl, DF.dpost h1 h2 (h3.crash l) h4 hP⟩
/-- What Open of a disk that may die leaves. -/
def OpP (O : List ByteArray) (l : List Wr1) (must : Bool) (w0 : World) (b : Nat) (X : Nat → Prop) (N : Nat) (w : World) (e : Ending) (w' : World) : Prop :=
  ∃ jp ag er s', e = .returned (.tuple #[.pointer jp, .bool ag, .int .i64 er]) ∧ DF w0 w' b s' X ∧ Only (fun x => ¬ X x) w w' ∧ (er = 0 ∨ er = 2) ∧ s'.pend.length ≤ 16 ∧ s'.acts.length ≤ N + 19 ∧ Crashed (StA O l (must || (decide (er = 0) && ag))) s'
/-- The same, with the fuse. -/
def OpQ (O : List ByteArray) (l : List Wr1) (must : Bool) (w0 : World) (b : Nat) (X : Nat → Prop) (N f : Nat) (w : World) (e : Ending) (w' : World) : Prop :=
  ∃ jp ag er s', e = .returned (.tuple #[.pointer jp, .bool ag, .int .i64 er]) ∧ DF w0 w' b s' X ∧ Only (fun x => ¬ X x) w w' ∧ (er = 0 ∨ (er = 2 ∧ 1 ≤ f)) ∧ s'.pend.length ≤ 16 ∧ s'.acts.length ≤ N + 19 ∧ Crashed (StA O l (must || (decide (er = 0) && ag))) s'
/-- The last Open: of a disk that was loaded. -/
def OpZ (O : List ByteArray) (l : List Wr1) (must : Bool) (base b : Nat) (v : DV) (w : World) (e : Ending) (w' : World) : Prop :=
  ∃ jp ag I A, e = .returned (.tuple #[.pointer jp, .bool ag, .int .i64 0]) ∧ DPost base b v (rs I A) w w' ∧ Sane (rs I A) ∧ I.length = 128 ∧ ((freeQ I O ∧ must = false ∧ ag = false) ∨ freeQ I (layP O (natW l)))
end Go.Proofs.YtnfcnpolflfpfaaGreatDoor
