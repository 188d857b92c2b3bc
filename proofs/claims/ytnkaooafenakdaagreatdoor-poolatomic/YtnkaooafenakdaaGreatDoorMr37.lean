import Derived.Test.YtnkaooafenakdaaGreatDoorMr36
import Derived.Test.YtnkaooafenakdaaGreatDoorMr05
import Derived.Test.YtnkaooafenakdaaGreatDoorMr33
namespace Go.Proofs.YtnkaooafenakdaaGreatDoor
open Go.RowKit
/-- A disk behind w0, and a fence. -/
def DF (w0 w : World) (b : Nat) (s : DSt) (X : Nat → Prop) : Prop := ∃ v, Dk w w0.heap.size b v s ∧ Below w0.heap.size w0 w ∧ Sane s ∧ ∀ x, X x → ¬ Fd b v x ∧ x < w.heap.size
theorem JK.df {w0 w : World} {b jb : Nat} {s : DSt} {nx : Nat} {lost : Bool} {X : Nat → Prop} (h : JK w0 w b jb s nx lost X) : DF w0 w b s X := by
  obtain ⟨v, h1, h2, h3, h4, h5, h6, h7⟩ := h
  exact ⟨v, h1, h5, h6, fun x hx => ⟨(h7 x hx).1, (h7 x hx).2.2⟩⟩
theorem DF.bel {w0 w : World} {b : Nat} {s : DSt} {X : Nat → Prop} (h : DF w0 w b s X) : Below w0.heap.size w0 w := by
  obtain ⟨v, h1, h2, _⟩ := h
  exact h2
theorem DF.lt {w0 w : World} {b : Nat} {s : DSt} {X : Nat → Prop} (h : DF w0 w b s X) (x : Nat) (hx : X x) : x < w.heap.size := by
  obtain ⟨v, h1, h2, h3, h4⟩ := h
  exact (h4 x hx).2
theorem DF.di {w0 w : World} {b : Nat} {s : DSt} {X : Nat → Prop} (h : DF w0 w b s X) : DI w0 w b s := by
  obtain ⟨v, h1, h2, h3, h4⟩ := h
  exact ⟨v, h1, h2, h3⟩
theorem DF.below {w0 w w' : World} {b : Nat} {s : DSt} {X : Nat → Prop} (h : DF w0 w b s X) (hb : Below w.heap.size w w') : DF w0 w' b s X := by
  obtain ⟨v, h1, h2, h3, h4⟩ := h
  exact ⟨v, h1.below hb, h2.trans (hb.mono h2.size), h3, fun x hx => ⟨(h4 x hx).1, Nat.lt_of_lt_of_le (h4 x hx).2 hb.size⟩⟩
theorem DF.dpost {w0 w w' : World} {b : Nat} {v : DV} {s s' : DSt} {X : Nat → Prop} (h1 : Dk w w0.heap.size b v s) (h2 : Below w0.heap.size w0 w) (hs : Sane s') (h4 : ∀ x, X x → ¬ Fd b v x ∧ x < w.heap.size) (hP : DPost w0.heap.size b v s' w w') : DF w0 w' b s' X ∧ Only (fun x => ¬ X x) w w' := by
  obtain ⟨v', k1, k2, k3⟩ := hP
  refine ⟨⟨v', k1, DI.only h1 h2 k2, hs, fun x hx => ⟨fun q => ?_, Nat.lt_of_lt_of_le (h4 x hx).2 k2.size⟩⟩, k2.widen (fun k _ q r => (h4 k r).1 q)⟩
  rcases k3 x q with r | r
  · exact (h4 x hx).1 r
  · have := (h4 x hx).2; omega
theorem crashF {w0 w : World} {b : Nat} {s : DSt} {X : Nat → Prop} (h : DF w0 w b s X) (hp : s.pend.length ≤ 1000000000) (p : Option Addr) (l : List Int) (n c : Nat) (hn : n = l.length) (hl : Ints w p l) (hll : l.length ≤ 9223372036854775807) :
    Calls Tryz.prog 26 #[.pointer (some ⟨b, 0, none⟩), .slice p n c] w fun e w' => e = .returned (.int .i64 (crashE s l)) ∧ DF w0 w' b (crashS s l) X ∧ Only (fun x => ¬ X x) w w' := by
  subst hn
  obtain ⟨v, h1, h2, h3, h4⟩ := h
  refine (crash_any w _ b v s h1 h2.size h3 hp p l c hl hll).mono ?_
  rintro ev w' ⟨rfl, hP⟩
  exact ⟨rfl, DF.dpost h1 h2 (h3.crash l) h4 hP⟩
theorem armF {w0 w : World} {b : Nat} {s : DSt} {X : Nat → Prop} (h : DF w0 w b s X) (n : Int) (hn : n ≤ 9223372036854775807) :
    Calls Tryz.prog 24 #[.pointer (some ⟨b, 0, none⟩), .int .i64 n] w fun e w' => e = .returned (.int .i64 (armE s n)) ∧ DF w0 w' b (armS s n) X ∧ Only (fun x => ¬ X x) w w' := by
  obtain ⟨v, h1, h2, h3, h4⟩ := h
  refine (arm_any w _ b v s h1 n).mono ?_
  rintro ev w' ⟨rfl, g1, g2⟩
  exact ⟨rfl, DF.dpost h1 h2 (h3.arm n hn) h4 ⟨v, g1, g2, fun _ q => .inl q⟩⟩
theorem imageF {w0 w : World} {b : Nat} {L : List ByteArray} {A : List (Nat × Nat)} {X : Nat → Prop} (h : DF w0 w b (rs L A) X) (hL : L.length = 128) : Calls Tryz.prog 28 #[.pointer (some ⟨b, 0, none⟩)] w fun e w' => ∃ g cap, e = .returned (.slice (some ⟨g, 0, none⟩) 128 cap) ∧ w.heap.size ≤ g ∧ g < w'.heap.size ∧ Strs w' (some ⟨g, 0, none⟩) L ∧ Below w.heap.size w w' := by
  obtain ⟨v, h1, _⟩ := h
  refine (image_any w _ b v _ h1 (by show 0 < L.length; omega) (by show L.length ≤ 1024; omega)).mono ?_
  rintro e w' ⟨v', rfl, hr, hb⟩
  have hr' : w'.ownsRow w.heap.size 9 1 v' L.length (strs L) := hr
  obtain ⟨g, cap, e, hg1, hg2⟩ := hr'.form (by omega)
  obtain ⟨p', c', e2, hs⟩ := Strs.own hr'
  rw [e] at e2
  simp at e2
  obtain ⟨rfl, rfl⟩ := e2
  have hlt := hr'.lt g (by rw [e]; rfl)
  exact ⟨g, cap, by rw [e, hL], hlt.1, hlt.2, hs, hb⟩
/-- What Open of a disk that may die leaves. -/
def OpP (O : List ByteArray) (l : List Wr1) (must : Bool) (w0 : World) (b : Nat) (X : Nat → Prop) (N : Nat) (w : World) (e : Ending) (w' : World) : Prop :=
  ∃ jp ag er s', e = .returned (.tuple #[.pointer jp, .bool ag, .int .i64 er]) ∧ DF w0 w' b s' X ∧ Only (fun x => ¬ X x) w w' ∧ (er = 0 ∨ er = 2) ∧ s'.pend.length ≤ 16 ∧ s'.acts.length ≤ N + 19 ∧ Crashed (StA O l (must || (decide (er = 0) && ag))) s'
/-- The same, with the fuse. -/
def OpQ (O : List ByteArray) (l : List Wr1) (must : Bool) (w0 : World) (b : Nat) (X : Nat → Prop) (N f : Nat) (w : World) (e : Ending) (w' : World) : Prop :=
  ∃ jp ag er s', e = .returned (.tuple #[.pointer jp, .bool ag, .int .i64 er]) ∧ DF w0 w' b s' X ∧ Only (fun x => ¬ X x) w w' ∧ (er = 0 ∨ (er = 2 ∧ 1 ≤ f)) ∧ s'.pend.length ≤ 16 ∧ s'.acts.length ≤ N + 19 ∧ Crashed (StA O l (must || (decide (er = 0) && ag))) s'
theorem openG {w0 w : World} {b : Nat} {O I : List ByteArray} {l : List Wr1} {must : Bool} {A : List (Nat × Nat)} {f : Nat} {X : Nat → Prop} (h : DF w0 w b ⟨I, I, [], A, (f : Int), false⟩ X) (hg : ETy w) (h2 : f ≤ 1000000) (hA : StA O l must I) (hl : GoodL l) (hO : O.length = 128) (ha : A.length ≤ 1000000) :
    Calls Tryz.prog 33 #[.pointer (some ⟨b, 0, none⟩)] w (OpQ O l must w0 b X A.length f w) := by
  obtain ⟨v, k1, k2, k3, k4⟩ := h
  have hIl := hA.len
  obtain ⟨r1, r2⟩ := readB (s := ⟨I, I, [], A, (f : Int), false⟩) rfl 1 (by show 1 < I.length; omega)
  rw [show ((1 : Nat) : Int) = 1 from rfl] at r1 r2
  have r2' : readT ⟨I, I, [], A, (f : Int), false⟩ 1 = I.getD 1 ByteArray.empty := r2
  have hsz : (I.getD 1 ByteArray.empty).size = 256 := hA.size _ (by simp [List.getD_eq_getElem?_getD, show 1 < I.length by omega])
  refine (open_any w _ b v _ k1 hg k2.size k3 (by rw [r2', hsz]; decide) (Nat.zero_le _) (by show A.length ≤ _; omega)).mono ?_
  intro e w' hP
  rcases hP with ⟨q, _⟩ | ⟨_, n', H, ok, hn', hR, hc⟩
  · exact absurd r1 q
  · rw [r2'] at hR
    have clear : ∀ n, n < 4294967296 → I.getD 1 ByteArray.empty = headB n [] → StA O l must I → OpQ O l must w0 b X A.length f w e w' := fun n hn hh hst => by
      rw [hh] at hR
      obtain ⟨e1, e2, e3⟩ := rhp_clear n hn _ _ _ _ hR
      subst e2 e3
      rcases hc with ⟨q, _⟩ | ⟨_, _, jb, ev, v', j1, j2, j3, j4, j5, j6⟩ | ⟨_, q, _⟩ | ⟨_, q, _⟩
      · cases q
      · have hd := DF.dpost k1 k2 k3 k4 ⟨v', j1, j5, j6⟩
        refine ⟨_, false, 0, _, ev, hd.1, hd.2, .inl rfl, Nat.zero_le _, by show A.length ≤ _; omega, fun ps hp _ => ?_⟩
        rw [sub_nil hp]
        have : (must || (decide ((0 : Int) = 0) && false)) = must := by simp
        rw [this]
        exact hst
      · simp at q
      · simp at q
    rcases hA with ⟨q, qm⟩ | q | q
    · exact clear 1 (by decide) q.head (.inl ⟨q, qm⟩)
    · rw [q.head, show (((⟨I, I, [], A, (f : Int), false⟩ : DSt).last.length : Nat) : Int) = 128 by show ((I.length : Nat) : Int) = 128; rw [hIl]; rfl] at hR
      obtain ⟨e1, e2, e3⟩ := rhp_set 2 (by decide) 128 _ _ _ _ (secs16 l hl) (homes_ok l hl) hR
      have e1' : n' = 2 := by omega
      subst e1' e2 e3
      obtain ⟨er, s', hrr, he, hp16, hac, hn0, hcr⟩ := redo_at q hl hO A f h2
      rw [hrr] at hc
      have hsn : Sane s' := by
        have hx : Sane (redoR ⟨I, I, [], A, (f : Int), false⟩ 2 (secs (filled l))).2 := by
          unfold redoR
          split
          · exact layR_sane _ _ (layR_sane _ _ k3)
          · exact layR_sane _ _ k3
        rw [hrr] at hx
        exact hx
      rcases hc with ⟨q', _⟩ | ⟨_, q', _⟩ | ⟨_, _, q', ev, hD⟩ | ⟨_, _, q', jb, ev, v', j1, j2, j3, j4, j5, j6⟩
      · cases q'
      · rw [secs16 l hl] at q'; cases q'
      · have hd := DF.dpost k1 k2 hsn k4 hD
        exact ⟨_, false, er, s', ev, hd.1, hd.2, he, hp16, hac, fun ps hp hlen => .inr (hcr ps hp hlen)⟩
      · have hd := DF.dpost k1 k2 hsn k4 ⟨v', j1, j5, j6⟩
        exact ⟨_, true, 0, s', ev, hd.1, hd.2, .inl rfl, hp16, hac, fun ps hp hlen => .inr (hcr ps hp hlen)⟩
    · exact clear 2 (by decide) q.head (.inr (.inr q))
theorem openF {w0 w : World} {b : Nat} {O I : List ByteArray} {l : List Wr1} {must : Bool} {A : List (Nat × Nat)} {f : Nat} {X : Nat → Prop} (h : DF w0 w b ⟨I, I, [], A, (f : Int), false⟩ X) (hg : ETy w) (_h1 : 1 ≤ f) (h2 : f ≤ 20) (hA : StA O l must I) (hl : GoodL l) (hO : O.length = 128) (ha : A.length ≤ 1000000) :
    Calls Tryz.prog 33 #[.pointer (some ⟨b, 0, none⟩)] w (OpP O l must w0 b X A.length w) := by
  refine (openG h hg (by omega) hA hl hO ha).mono ?_
  rintro e w' ⟨jp, ag, er, s', q1, q2, q3, q4, q5⟩
  exact ⟨jp, ag, er, s', q1, q2, q3, q4.imp id (·.1), q5⟩
/-- The last Open: of a disk that was loaded. -/
def OpZ (O : List ByteArray) (l : List Wr1) (must : Bool) (base b : Nat) (v : DV) (w : World) (e : Ending) (w' : World) : Prop :=
  ∃ jp ag I A, e = .returned (.tuple #[.pointer jp, .bool ag, .int .i64 0]) ∧ DPost base b v (rs I A) w w' ∧ Sane (rs I A) ∧ I.length = 128 ∧ ((freeQ I O ∧ must = false ∧ ag = false) ∨ freeQ I (layP O (natW l)))
theorem openZ {w : World} {base b : Nat} {v : DV} {O I : List ByteArray} {l : List Wr1} {must : Bool} (h : Dk w base b v (rs I [])) (hg : ETy w) (hb : base ≤ w.heap.size) (hA : StA O l must I) (hl : GoodL l) (hO : O.length = 128) :
    Calls Tryz.prog 33 #[.pointer (some ⟨b, 0, none⟩)] w (OpZ O l must base b v w) := by
  have hIl := hA.len
  have hS : Sane (rs I []) := Sane.fresh I (by omega) (by omega)
  obtain ⟨r1, r2⟩ := read_rs I [] 1 (by omega)
  rw [show ((1 : Nat) : Int) = 1 from rfl] at r1 r2
  have hsz : (I.getD 1 ByteArray.empty).size = 256 := hA.size _ (by simp [List.getD_eq_getElem?_getD, show 1 < I.length by omega])
  refine (open_any w base b v _ h hg hb hS (by rw [r2, hsz]; decide) (Nat.zero_le _) (Nat.zero_le _)).mono ?_
  intro e w' hP
  rcases hP with ⟨q, _⟩ | ⟨_, n', H, ok, hn', hR, hc⟩
  · exact absurd r1 q
  · rw [r2] at hR
    have clear : ∀ n, n < 4294967296 → I.getD 1 ByteArray.empty = headB n [] → ((freeQ I O ∧ must = false) ∨ freeQ I (layP O (natW l))) → OpZ O l must base b v w e w' := fun n hn hh hst => by
      rw [hh] at hR
      obtain ⟨e1, e2, e3⟩ := rhp_clear n hn _ _ _ _ hR
      subst e2 e3
      rcases hc with ⟨q, _⟩ | ⟨_, _, jb, ev, v', j1, j2, j3, j4, j5, j6⟩ | ⟨_, q, _⟩ | ⟨_, q, _⟩
      · cases q
      · refine ⟨_, false, I, [], ev, ⟨v', j1, j5, j6⟩, hS, hIl, ?_⟩
        rcases hst with ⟨a, b⟩ | a
        · exact .inl ⟨a, b, rfl⟩
        · exact .inr a
      · simp at q
      · simp at q
    rcases hA with ⟨q, qm⟩ | q | q
    · exact clear 1 (by decide) q.head (.inl ⟨q.free, qm⟩)
    · rw [q.head, show (((rs I []).last.length : Nat) : Int) = 128 by show ((I.length : Nat) : Int) = 128; rw [hIl]; rfl] at hR
      obtain ⟨e1, e2, e3⟩ := rhp_set 2 (by decide) 128 _ _ _ _ (secs16 l hl) (homes_ok l hl) hR
      have e1' : n' = 2 := by omega
      subst e1' e2 e3
      have h16 := filled_len l hl.len
      have hL : redoL (rs I []) (secs (filled l)) = filled l := by
        refine List.ext_getElem (by rw [redoL_len, secs16 l hl, h16]) (fun i q1 q2 => ?_)
        have hi : i < 16 := by omega
        rw [← getD_of q1, ← getD_of q2, redoL_at _ _ i (by rw [secs16 l hl]; exact hi), secs_at _ i (by omega), (read_rs I [] (2 + i) (by omega)).2, q.recs i hi]
      have e1 := lay_rs I [] (filled l) (by rw [hIl]; exact fill_ok l hl)
      have e2 := lay_rs (layP I (natW (filled l))) ([] ++ actW (filled l) ++ [(1, 0)]) [(1, headB 2 [])] (head_ok _ (by rw [layP_len, hIl]; decide) 2 _ (by simp))
      have hrr : redoR (rs I []) 2 (secs (filled l)) = (0, rs (layP (layP I (natW (filled l))) [(1, headB 2 [])]) ([] ++ actW (filled l) ++ [(1, 0)] ++ actW [(1, headB 2 [])] ++ [(1, 0)])) := by
        rw [redoR, hL, e1, if_pos rfl]
        simp only
        rw [e2]
        rfl
      have hsn : Sane (redoR (rs I []) 2 (secs (filled l))).2 := by
        unfold redoR
        split
        · exact layR_sane _ _ (layR_sane _ _ hS)
        · exact layR_sane _ _ hS
      rw [hrr] at hc hsn
      have hN := q.done hl hO
      rcases hc with ⟨q', _⟩ | ⟨_, q', _⟩ | ⟨_, _, q', _⟩ | ⟨_, _, q', jb, ev, v', j1, j2, j3, j4, j5, j6⟩
      · cases q'
      · rw [secs16 l hl] at q'; cases q'
      · exact absurd rfl q'
      · exact ⟨_, true, _, _, ev, ⟨v', j1, j5, j6⟩, hsn, hN.len, .inr hN.free⟩
    · exact clear 2 (by decide) q.head (.inr q.free)
/-- What was laid down lies there already. -/
theorem free_again (L : List ByteArray) (nx : Nat) (l : List Wr1) (hl : l.length ≤ 16) : freeQ (comL L nx l) (layP (comL L nx l) (natW l)) := fun k h1 h2 => by
  rw [comL_len] at h2
  by_cases hk : ∃ p ∈ natW l, p.1 = k
  · rw [com_free L nx l hl k h1]
    exact layP_any _ _ _ k (by rw [comL_len]) h2 hk
  · rw [layP_skip _ _ k (fun p hp e => hk ⟨p, hp, e⟩)]
end Go.Proofs.YtnkaooafenakdaaGreatDoor

namespace Go.Proofs.YtnkaooafenakdaaGreatDoor
open Go.ChangeShapes Go.WideShapes Go.ChangeAt Go.RowKit
set_option maxRecDepth 100000 in
/-- An argument []int. -/
theorem open_il {H : Type} {enc : TypeId × Value → H} {w : World} {base : Nat} {spare : Nat → Bool} {held : Bool} {fuel : Nat} {a : Option Addr} {len cap : Nat} {x : DataW H × List MemPlace} (h : DataW.trod enc Tryz.prog w base spare held fuel 22 [.slice a len cap] = some x) :
    ∃ l : List Int, len = l.length ∧ Ints w a l ∧ (∀ i, I64 (l.getD i 0)) ∧ len ≤ 9223372036854775807 := by
  have hML : (maxLen : Nat) = 9223372036854775807 := rfl
  rcases open_ints Tryz.underlying22 Tryz.underlying3 (by kernel_rfl) h with ⟨hcs, _⟩ | ⟨ad, l, c, zs, hcs, _, hl, hm, hz, hd, hcell, hwz⟩
  · simp at hcs
    obtain ⟨rfl, rfl, rfl⟩ := hcs
    exact ⟨[], rfl, fun j hj => (by cases hj), fun i => by simp [I64], by omega⟩
  · simp at hcs
    obtain ⟨rfl, rfl, rfl⟩ := hcs
    have hzl : len ≤ zs.length := by rw [hz]; split <;> omega
    have hlen : (zs.take len).length = len := by simp; omega
    refine ⟨zs.take len, hlen.symm, fun j hj => ?_, fun i => ?_, by omega⟩
    · rw [hlen] at hj
      have hc := hcell j (by omega)
      have hc0 := hcell 0 (by omega)
      obtain ⟨b, off, spot⟩ := ad
      have hspot : spot = none := by simpa [Addr.add] using World.cell?_spot hc0
      subst hspot
      rw [Addr.add_mid] at hc
      refine ⟨b, off, rfl, World.block_lt_of_cell? w _ hc, hc.trans ?_⟩
      simp [hj]
    · by_cases hi : i < (zs.take len).length
      · rw [List.getD_eq_getElem?_getD, List.getElem?_eq_getElem hi]
        exact wf_I64 (hwz _ (List.mem_of_mem_take (List.getElem_mem hi)))
      · rw [List.getD_eq_getElem?_getD, List.getElem?_eq_none (by omega)]
        simp [I64]
set_option maxRecDepth 100000 in
/-- And how long it is in its datum. -/
theorem open_ild {H : Type} {enc : TypeId × Value → H} {w : World} {base : Nat} {spare : Nat → Bool} {held : Bool} {fuel : Nat} {a : Option Addr} {len cap : Nat} {x : DataW H × List MemPlace} (h : DataW.trod enc Tryz.prog w base spare held fuel 22 [.slice a len cap] = some x) :
    len = 0 ∨ ∃ es sp, x.1 = .slice es sp ∧ es.length = len := by
  rcases open_ints Tryz.underlying22 Tryz.underlying3 (by kernel_rfl) h with ⟨hcs, _⟩ | ⟨ad, l, c, zs, hcs, _, hl, hm, hz, hd, hcell, hwz⟩
  · simp at hcs
    exact .inl hcs.2.1
  · simp at hcs
    obtain ⟨rfl, rfl, rfl⟩ := hcs
    have hzl : len ≤ zs.length := by rw [hz]; split <;> omega
    refine .inr ⟨_, _, by rw [hd], ?_⟩
    simp [lits]
    omega
end Go.Proofs.YtnkaooafenakdaaGreatDoor
