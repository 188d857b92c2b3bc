import Derived.Test.YtnkaooafenakdaaGreatDoorMr34
import Derived.Test.YtnkaooafenakdaaGreatDoorMr11
import Derived.BigQuiet
namespace Go.Proofs.YtnkaooafenakdaaGreatDoor
open Go.RowKit
theorem JK.dpost {w0 w w' : World} {b jb : Nat} {v : DV} {s s' : DSt} {nx : Nat} {lost : Bool} {X : Nat → Prop} (h1 : Dk w w0.heap.size b v s) (h2 : Jb w jb b nx lost) (h3 : ¬ Fd b v jb) (h4 : w0.heap.size ≤ jb) (h5 : Below w0.heap.size w0 w) (hs : Sane s') (h7 : ∀ x, X x → ¬ Fd b v x ∧ x ≠ jb ∧ x < w.heap.size) (hP : DPost w0.heap.size b v s' w w') : JK w0 w' b jb s' nx lost X ∧ Only (fun x => ¬ X x) w w' := by
  obtain ⟨v', k1, k2, k3⟩ := hP
  refine ⟨⟨v', k1, Blk.only h2 k2 h3, fun q => ?_, h4, DI.only h1 h5 k2, hs, fun x hx => ?_⟩, k2.widen (fun k _ q r => (h7 k r).1 q)⟩
  · rcases k3 jb q with r | r
    · exact h3 r
    · have := Blk.lt h2; omega
  · obtain ⟨a1, a2, a3⟩ := h7 x hx
    refine ⟨fun q => ?_, a2, Nat.lt_of_lt_of_le a3 k2.size⟩
    rcases k3 x q with r | r
    · exact a1 r
    · omega
theorem crashK {w0 w : World} {b jb : Nat} {s : DSt} {nx : Nat} {lost : Bool} {X : Nat → Prop} (h : JK w0 w b jb s nx lost X) (hp : s.pend.length ≤ 1000000000) (p : Option Addr) (l : List Int) (n c : Nat) (hn : n = l.length) (hl : Ints w p l) (hll : l.length ≤ 9223372036854775807) :
    Calls Tryz.prog 26 #[.pointer (some ⟨b, 0, none⟩), .slice p n c] w fun e w' => e = .returned (.int .i64 (crashE s l)) ∧ JK w0 w' b jb (crashS s l) nx lost X ∧ Only (fun x => ¬ X x) w w' := by
  subst hn
  obtain ⟨v, h1, h2, h3, h4, h5, h6, h7⟩ := h
  refine (crash_any w _ b v s h1 h5.size h6 hp p l c hl hll).mono ?_
  rintro ev w' ⟨rfl, hP⟩
  exact ⟨rfl, JK.dpost h1 h2 h3 h4 h5 (h6.crash l) h7 hP⟩
theorem armK {w0 w : World} {b jb : Nat} {s : DSt} {nx : Nat} {lost : Bool} {X : Nat → Prop} (h : JK w0 w b jb s nx lost X) (n : Int) (hn : n ≤ 9223372036854775807) :
    Calls Tryz.prog 24 #[.pointer (some ⟨b, 0, none⟩), .int .i64 n] w fun e w' => e = .returned (.int .i64 (armE s n)) ∧ JK w0 w' b jb (armS s n) nx lost X ∧ Only (fun x => ¬ X x) w w' := by
  obtain ⟨v, h1, h2, h3, h4, h5, h6, h7⟩ := h
  refine (arm_any w _ b v s h1 n).mono ?_
  rintro ev w' ⟨rfl, g1, g2⟩
  exact ⟨rfl, JK.dpost h1 h2 h3 h4 h5 (h6.arm n hn) h7 ⟨v, g1, g2, fun _ q => .inl q⟩⟩
/-- Open of a disk that died behind the head was set. -/
theorem openM {w : World} {base b : Nat} {v : DV} {L : List ByteArray} {nx : Nat} {l : List Wr1} (h : Dk w base b v (rs (midL L nx l) [])) (hg : ETy w) (hb : base ≤ w.heap.size) (hL : L.length = 128) (hl : GoodL l) (hn : nx < 4294967296) :
    Calls Tryz.prog 33 #[.pointer (some ⟨b, 0, none⟩)] w fun e w' => ∃ jb, e = .returned (.tuple #[.pointer (some ⟨jb, 0, none⟩), .bool true, .int .i64 0]) ∧ ∃ v' A', Dk w' base b v' (rs (comL L nx l) A') ∧ Only (Fd b v) w w' := by
  have hML : (midL L nx l).length = 128 := by rw [midL_len, hL]
  obtain ⟨r1, r2⟩ := read_rs (midL L nx l) [] 1 (by omega)
  rw [show ((1 : Nat) : Int) = 1 from rfl] at r1 r2
  have hh := mid_head L nx l (by omega)
  have hS : Sane (rs (midL L nx l) []) := Sane.fresh (midL L nx l) (by omega) (by omega)
  have ht : (readT (rs (midL L nx l) []) 1).size ≤ 9223372036854775807 := by rw [r2, hh, headB_size nx _ (by rw [secs16 l hl]; decide)]; decide
  refine (open_any w base b v _ h hg hb hS ht (Nat.zero_le _) (Nat.zero_le _)).mono ?_
  intro e w' hP
  rcases hP with ⟨q, _⟩ | ⟨_, n', H, ok, hn', hR, hc⟩
  · exact absurd r1 q
  · rw [r2, hh, show (((rs (midL L nx l) []).last.length : Nat) : Int) = 128 by show (((midL L nx l).length : Nat) : Int) = 128; rw [hML]; rfl] at hR
    obtain ⟨e1, e2, e3⟩ := rhp_set nx hn 128 _ _ _ _ (secs16 l hl) (homes_ok l hl) hR
    have e1' : n' = nx := by omega
    subst e1' e2 e3
    rw [redoR_mid L n' l hL hl] at hc
    rcases hc with ⟨q, _⟩ | ⟨_, q, _⟩ | ⟨_, _, q, _⟩ | ⟨_, _, _, jb, ev, v', k1, _, _, _, k5, _⟩
    · cases q
    · rw [secs16 l hl] at q; cases q
    · exact absurd rfl q
    · exact ⟨jb, ev, v', _, k1, k5⟩
theorem filled_at (l : List Wr1) (h : l.length ≤ 16) (k : Nat) (hk : k < 16) : (filled l).getD k wr0 = if k < l.length then l.getD k wr0 else fillW := by
  by_cases hkl : k < l.length
  · rw [if_pos hkl, filled, List.getD_eq_getElem?_getD, List.getElem?_append_left hkl, List.getD_eq_getElem?_getD]
  · rw [if_neg hkl, filled, List.getD_eq_getElem?_getD, List.getElem?_append_right (by omega), List.getElem?_replicate, if_pos (by omega)]
    rfl
theorem out_snoc (H : List Int) (k : Nat) (hk : k < H.length) : [1] ++ outN 4 (H.take (k + 1)) = ([1] ++ outN 4 (H.take k)) ++ outN 4 [H.getD k 0] := by
  have e : H.take (k + 1) = H.take k ++ [H.getD k 0] := by
    rw [List.take_succ_eq_append_getElem hk]
    simp [List.getD_eq_getElem?_getD, hk]
  rw [e, List.append_assoc]
  simp [outN]
/-- The fence of a list alone. -/
def Xq (q : Option Addr) (l : List Wr1) (x : Nat) : Prop := 0 < l.length ∧ ∃ o, q = some ⟨x, o, none⟩
end Go.Proofs.YtnkaooafenakdaaGreatDoor

namespace Go.Proofs.YtnkaooafenakdaaGreatDoor
open Go.RowKit
def SmI (w : World) (k : Nat) (u : Value) (wr : World) : Prop := ∃ K : List Int, wr.ownsRow w.heap.size 3 1 u K.length (K.map (Value.int .i64)) ∧ (∀ x ∈ K, 0 ≤ x ∧ x < (k : Int)) ∧ K.length ≤ k ∧ Below w.heap.size w wr
def SmPost (w : World) (n : Nat) (e : Ending) (w' : World) : Prop := ∃ p c K, e = .returned (.slice p K.length c) ∧ Ints w' p K ∧ (∀ x ∈ K, 0 ≤ x ∧ x < (n : Int)) ∧ K.length ≤ n ∧ Below w.heap.size w w'
theorem ints_own {w : World} {base : Nat} {p : Option Addr} {m c : Nat} {K : List Int} (h : w.ownsRow base 3 1 (.slice p m c) K.length (K.map (Value.int .i64))) : Ints w p K := fun j hj => by
  obtain ⟨g, cap, ev, _⟩ := h.form (by omega)
  simp at ev
  obtain ⟨rfl, _⟩ := ev
  refine ⟨g, 0, rfl, (h.lt g rfl).2, ?_⟩
  rw [Nat.zero_add, (own_at h rfl j (by simpa using hj)).1]
  simp [List.getD_eq_getElem?_getD, hj]
end Go.Proofs.YtnkaooafenakdaaGreatDoor

namespace Go.Proofs.YtnkaooafenakdaaGreatDoor
open Go.RowKit
/-- The image as it was: the head is clear, the free sectors are the old ones. -/
structure StO (O I : List ByteArray) : Prop where
  len : I.length = 128
  size : ∀ t ∈ I, t.size = 256
  head : I.getD 1 ByteArray.empty = headB 1 []
  free : freeQ I O
/-- The head is set, the records lie there; the homes are what they are. -/
structure StM (O : List ByteArray) (l : List Wr1) (I : List ByteArray) : Prop where
  len : I.length = 128
  size : ∀ t ∈ I, t.size = 256
  head : I.getD 1 ByteArray.empty = headB 2 (secs (filled l))
  recs : ∀ i, i < 16 → I.getD (2 + i) ByteArray.empty = ((filled l).getD i wr0).2
  rest : ∀ k, 19 ≤ k → (∀ p ∈ natW l, p.1 ≠ k) → I.getD k ByteArray.empty = O.getD k ByteArray.empty
/-- The commit is there. -/
structure StN (O : List ByteArray) (l : List Wr1) (I : List ByteArray) : Prop where
  len : I.length = 128
  size : ∀ t ∈ I, t.size = 256
  head : I.getD 1 ByteArray.empty = headB 2 []
  free : freeQ I (layP O (natW l))
theorem keep_mem : ∀ (ps : List (Nat × ByteArray)) (ks : List Bool) (p : Nat × ByteArray), p ∈ keepP ps ks → p ∈ ps
  | q :: r, true :: k, p, h => by
    rw [keepP] at h
    rcases List.mem_cons.1 h with e | e
    · exact List.mem_cons.2 (.inl e)
    · exact List.mem_cons.2 (.inr (keep_mem r k p e))
  | q :: r, false :: k, p, h => by
    rw [keepP] at h
    exact List.mem_cons.2 (.inr (keep_mem r k p h))
  | [], k, p, h => by simp [keepP] at h
  | _ :: _, [], p, h => by simp [keepP] at h
theorem StO.lay {O I : List ByteArray} (h : StO O I) (ps : List (Nat × ByteArray)) (hp : ∀ p ∈ ps, 2 ≤ p.1 ∧ p.1 < 18 ∧ p.2.size = 256) : StO O (layP I ps) := by
  refine ⟨by rw [layP_len]; exact h.len, layP_size _ _ h.size (fun p q => (hp p q).2.2), ?_, fun k h1 h2 => ?_⟩
  · rw [layP_skip _ _ 1 (fun p q => by have := hp p q; omega)]; exact h.head
  · rw [layP_len] at h2
    rw [layP_skip _ _ k (fun p q => by have := hp p q; omega)]
    exact h.free k h1 h2
theorem StM.lay {O I : List ByteArray} {l : List Wr1} (h : StM O l I) (hl : GoodL l) (ps : List (Nat × ByteArray)) (hp : ∀ p ∈ ps, p ∈ natW (filled l)) : StM O l (layP I ps) := by
  have hin : ∀ p ∈ ps, (p.1 = 18 ∨ ∃ q ∈ natW l, q.1 = p.1) ∧ 18 ≤ p.1 ∧ p.2.size = 256 := fun p hq => by
    have hm := hp p hq
    have hsz := natW_size (fill_ok l hl) p hm
    rw [filled, natW_app] at hm
    rcases List.mem_append.1 hm with r | r
    · refine ⟨.inr ⟨p, r, rfl⟩, ?_, hsz⟩
      obtain ⟨x, hx, rfl⟩ := List.mem_map.1 r
      have := hl.free x hx
      show 18 ≤ x.1.toNat
      omega
    · obtain ⟨x, hx, rfl⟩ := List.mem_map.1 r
      have := List.eq_of_mem_replicate hx
      subst this
      exact ⟨.inl rfl, Nat.le_refl 18, hsz⟩
  refine ⟨by rw [layP_len]; exact h.len, layP_size _ _ h.size (fun p q => (hin p q).2.2), ?_, fun i hi => ?_, fun k h1 h2 => ?_⟩
  · rw [layP_skip _ _ 1 (fun p q => by have := (hin p q).2.1; omega)]; exact h.head
  · rw [layP_skip _ _ (2 + i) (fun p q => by have := (hin p q).2.1; omega)]; exact h.recs i hi
  · rw [layP_skip _ _ k (fun p q => ?_)]
    · exact h.rest k h1 h2
    · rcases (hin p q).1 with r | ⟨q', hq', r⟩
      · omega
      · rw [← r]; exact h2 q' hq'
/-- A sector that is written has what was written last, whatever it had before. -/
theorem layP_any (ps : List (Nat × ByteArray)) : ∀ (L M : List ByteArray) (k : Nat), L.length = M.length → k < L.length → (∃ p ∈ ps, p.1 = k) → (layP L ps).getD k ByteArray.empty = (layP M ps).getD k ByteArray.empty := by
  induction ps with
  | nil => intro L M k _ _ h; obtain ⟨p, hp, _⟩ := h; cases hp
  | cons q r ih =>
    intro L M k hlm hk h
    show (layP (L.set q.1 q.2) r).getD k _ = (layP (M.set q.1 q.2) r).getD k _
    by_cases hr : ∃ p ∈ r, p.1 = k
    · exact ih _ _ k (by simp [hlm]) (by simpa using hk) hr
    · have hq : q.1 = k := by
        obtain ⟨p, hp, e⟩ := h
        rcases List.mem_cons.1 hp with rfl | hp
        · exact e
        · exact absurd ⟨p, hp, e⟩ hr
      have hno : ∀ p ∈ r, p.1 ≠ k := fun p hp e => hr ⟨p, hp, e⟩
      rw [layP_skip r _ k hno, layP_skip r _ k hno, hq, getD_set_same _ _ _ hk, getD_set_same _ _ _ (by omega)]
/-- All homes are written, and the head is cleared: the commit is there. -/
theorem StM.done {O I : List ByteArray} {l : List Wr1} (h : StM O l I) (hl : GoodL l) (hO : O.length = 128) : StN O l (layP (layP I (natW (filled l))) [(1, headB 2 [])]) := by
  have hM := h.lay hl (natW (filled l)) (fun _ q => q)
  refine ⟨by rw [layP_len, layP_len]; exact h.len, layP_size _ _ hM.size (fun p hp => by simp at hp; subst hp; exact headB_size 2 [] (by simp)), ?_, fun k h1 h2 => ?_⟩
  · exact getD_set_same _ 1 _ (by rw [layP_len, h.len]; decide)
  · rw [layP_len, layP_len, h.len] at h2
    rw [layP_skip [(1, headB 2 [])] _ k (by intro p hp; simp at hp; subst hp; show 1 ≠ k; omega)]
    by_cases hk : ∃ p ∈ natW l, p.1 = k
    · have e : (layP I (natW (filled l))).getD k ByteArray.empty = (layP I (natW l)).getD k ByteArray.empty := by
        rw [filled, natW_app, layP_app, layP_skip (natW (List.replicate (16 - l.length) fillW)) _ k (by
          intro p hp
          obtain ⟨x, hx, rfl⟩ := List.mem_map.1 hp
          have := List.eq_of_mem_replicate hx
          subst this
          show 18 ≠ k
          omega)]
      rw [e]
      exact layP_any _ _ _ k (by rw [h.len, hO]) (by rw [h.len]; exact h2) hk
    · have hno : ∀ p ∈ natW l, p.1 ≠ k := fun p hp e => hk ⟨p, hp, e⟩
      rw [hM.rest k h1 hno, layP_skip _ _ k hno]
/-- The head that is set is written: the records lie there already. -/
theorem StM.of_mid {O : List ByteArray} {l : List Wr1} (hl : GoodL l) (hO : O.length = 128) (hs : ∀ t ∈ O, t.size = 256) : StM O l (midL O 2 l) := by
  refine ⟨by rw [midL_len]; exact hO, mid_size O 2 l hl hs, mid_head O 2 l (by omega), fun i hi => mid_rec O 2 l hO hl.len i hi, fun k h1 _ => ?_⟩
  unfold midL
  rw [layP_skip [(1, _)] _ k (by intro p hp; simp at hp; subst hp; show 1 ≠ k; omega), layP_skip _ _ k (by
    intro p hp
    obtain ⟨x, hx, rfl⟩ := List.mem_map.1 hp
    obtain ⟨i, hi, rfl⟩ := List.mem_map.1 hx
    have hi : i < (filled l).length := List.mem_range.1 hi
    rw [filled_len l hl.len] at hi
    show 2 + i ≠ k
    omega)]
theorem rec_range (l : List Wr1) (hl : GoodL l) : ∀ p ∈ natW (recL (filled l)), 2 ≤ p.1 ∧ p.1 < 18 ∧ p.2.size = 256 := fun p hp => by
  have hsz := natW_size (rec_ok l hl) p hp
  obtain ⟨x, hx, rfl⟩ := List.mem_map.1 hp
  obtain ⟨i, hi, rfl⟩ := List.mem_map.1 hx
  have hi : i < (filled l).length := List.mem_range.1 hi
  rw [filled_len l hl.len] at hi
  refine ⟨?_, ?_, hsz⟩
  · show 2 ≤ 2 + i; omega
  · show 2 + i < 18; omega
/-- What a disk that crashes may be: any of what was pending stays. -/
def Crashed (P : List ByteArray → Prop) (s : DSt) : Prop := ∀ ps, (∀ p ∈ ps, p ∈ s.pend) → ps.length ≤ s.pend.length → P (layP s.last ps)
theorem keep_len : ∀ (ps : List (Nat × ByteArray)) (ks : List Bool), (keepP ps ks).length ≤ ps.length
  | q :: r, true :: k => by rw [keepP]; simpa using keep_len r k
  | q :: r, false :: k => by rw [keepP]; exact Nat.le_succ_of_le (keep_len r k)
  | [], k => by simp [keepP]
  | _ :: _, [] => by simp [keepP]
theorem Crashed.crash {P : List ByteArray → Prop} {s : DSt} (h : Crashed P s) (K : List Int) (hK : ∀ z ∈ K, pickOk s.pend.length z) : crashE s K = 0 ∧ ∃ I, P I ∧ crashS s K = rs I s.acts := by
  refine ⟨by rw [crashE, if_pos hK], layP s.last (keepP s.pend (keptL s.pend.length K)), h _ (fun p hp => keep_mem _ _ p hp) (keep_len _ _), ?_⟩
  rw [crashS, if_pos hK]
  rfl
end Go.Proofs.YtnkaooafenakdaaGreatDoor
