import Derived.Test.YtkkndlkelpdehaaGreatDoorMr26
import Derived.Test.YtkkndlkelpdehaaGreatDoorMr07
import Derived.BigQuiet
import Derived.Test.YtkkndlkelpdehaaGreatDoorMr03
namespace Go.Proofs.YtkkndlkelpdehaaGreatDoor
open Go.RowKit
theorem JK.dpost {w0 w w' : World} {b jb : Nat} {v : DV} {s s' : DSt} {nx : Nat} {lost : Bool} {X : Nat → Prop} (h1 : Dk w w0.heap.size b v s) (h2 : Jb w jb b nx lost) (h3 : ¬ Fd b v jb) (h4 : w0.heap.size ≤ jb) (h5 : Below w0.heap.size w0 w) (hs : Sane s') (h7 : ∀ x, X x → ¬ Fd b v x ∧ x ≠ jb ∧ x < w.heap.size) (hP : DPost w0.heap.size b v s' w w') : JK w0 w' b jb s' nx lost X ∧ Only (fun x => ¬ X x) w w' := by
  obtain ⟨v', k1, k2, k3⟩ := hP
  refine ⟨⟨v', k1, Blk.only h2 k2 h3, fun q => ?_, h4, DI.only h1 h5 k2, hs, fun x hx => ?_⟩, k2.widen (fun k _ q r => (h7 k r).1 q)⟩
  · rcases k3 jb q with r | r
    · exact h3 r
    · have := Blk.lt h2; omega
  · obtain ⟨a1, a2, a3⟩ := h7 x hx
    refine ⟨fun q => ?_, a2, Nat.lt_of_lt_of_le a3 k2.size⟩
    rcases k3 x q with r | r
    · exact a1 r
    · omega
/-- Open of a disk that died behind the head was set. -/
theorem openM {w : World} {base b : Nat} {v : DV} {L : List ByteArray} {nx : Nat} {l : List Wr1} (h : Dk w base b v (rs (midL L nx l) [])) (hg : ETy w) (hb : base ≤ w.heap.size) (hL : L.length = 128) (hl : GoodL l) (hn : nx < 4294967296) :
    Calls Tryz.prog 41 #[.pointer (some ⟨b, 0, none⟩)] w fun e w' => ∃ jb, e = .returned (.tuple #[.pointer (some ⟨jb, 0, none⟩), .bool true, .int .i64 0]) ∧ ∃ v' A', Dk w' base b v' (rs (comL L nx l) A') ∧ Only (Fd b v) w w' := by
  have hML : (midL L nx l).length = 128 := by rw [midL_len, hL]
  obtain ⟨r1, r2⟩ := read_rs (midL L nx l) [] 1 (by omega)
  rw [show ((1 : Nat) : Int) = 1 from rfl] at r1 r2
  have hh := mid_head L nx l (by omega)
  have hS : Sane (rs (midL L nx l) []) := Sane.fresh (midL L nx l) (by omega) (by omega)
  have ht : (readT (rs (midL L nx l) []) 1).size ≤ 9223372036854775807 := by rw [r2, hh, headB_size nx _ (by rw [secs16 l hl]; decide)]; decide
  refine (open_any w base b v _ h hg hb hS ht (Nat.zero_le _) (Nat.zero_le _)).mono ?_
  intro e w' hP
  rcases hP with ⟨q, _⟩ | ⟨_, n', H, ok, hn', hR, hc⟩
  · exact absurd r1 q
  · rw [r2, hh, show (((rs (midL L nx l) []).last.length : Nat) : Int) = 128 by show (((midL L nx l).length : Nat) : Int) = 128; rw [hML]; rfl] at hR
    obtain ⟨e1, e2, e3⟩ := rhp_set nx hn 128 _ _ _ _ (secs16 l hl) (homes_ok l hl) hR
    have e1' : n' = nx := by omega
    subst e1' e2 e3
    rw [redoR_mid L n' l hL hl] at hc
    rcases hc with ⟨q, _⟩ | ⟨_, q, _⟩ | ⟨_, _, q, _⟩ | ⟨_, _, _, jb, ev, v', k1, _, _, _, k5, _⟩
    · cases q
    · rw [secs16 l hl] at q; cases q
    · exact absurd rfl q
    · exact ⟨jb, ev, v', _, k1, k5⟩
theorem filled_at (l : List Wr1) (h : l.length ≤ 16) (k : Nat) (hk : k < 16) : (filled l).getD k wr0 = if k < l.length then l.getD k wr0 else fillW := by
  by_cases hkl : k < l.length
  · rw [if_pos hkl, filled, List.getD_eq_getElem?_getD, List.getElem?_append_left hkl, List.getD_eq_getElem?_getD]
  · rw [if_neg hkl, filled, List.getD_eq_getElem?_getD, List.getElem?_append_right (by omega), List.getElem?_replicate, if_pos (by omega)]
    rfl
theorem out_snoc (H : List Int) (k : Nat) (hk : k < H.length) : [1] ++ outN 4 (H.take (k + 1)) = ([1] ++ outN 4 (H.take k)) ++ outN 4 [H.getD k 0] := by
  have e : H.take (k + 1) = H.take k ++ [H.getD k 0] := by
    rw [List.take_succ_eq_append_getElem hk]
    simp [List.getD_eq_getElem?_getD, hk]
  rw [e, List.append_assoc]
  simp [outN]
/-- The fence of a list alone. -/
def Xq (q : Option Addr) (l : List Wr1) (x : Nat) : Prop := 0 < l.length ∧ ∃ o, q = some ⟨x, o, none⟩
end Go.Proofs.YtkkndlkelpdehaaGreatDoor

namespace Go.Proofs.YtkkndlkelpdehaaGreatDoor
open Go.RowKit
def SmI (w : World) (k : Nat) (u : Value) (wr : World) : Prop := ∃ K : List Int, wr.ownsRow w.heap.size 3 1 u K.length (K.map (Value.int .i64)) ∧ (∀ x ∈ K, 0 ≤ x ∧ x < (k : Int)) ∧ K.length ≤ k ∧ Below w.heap.size w wr
def SmPost (w : World) (n : Nat) (e : Ending) (w' : World) : Prop := ∃ p c K, e = .returned (.slice p K.length c) ∧ Ints w' p K ∧ (∀ x ∈ K, 0 ≤ x ∧ x < (n : Int)) ∧ K.length ≤ n ∧ Below w.heap.size w w'
theorem ints_own {w : World} {base : Nat} {p : Option Addr} {m c : Nat} {K : List Int} (h : w.ownsRow base 3 1 (.slice p m c) K.length (K.map (Value.int .i64))) : Ints w p K := fun j hj => by
  obtain ⟨g, cap, ev, _⟩ := h.form (by omega)
  simp at ev
  obtain ⟨rfl, _⟩ := ev
  refine ⟨g, 0, rfl, (h.lt g rfl).2, ?_⟩
  rw [Nat.zero_add, (own_at h rfl j (by simpa using hj)).1]
  simp [List.getD_eq_getElem?_getD, hj]
end Go.Proofs.YtkkndlkelpdehaaGreatDoor

namespace Go.Proofs.YtkkndlkelpdehaaGreatDoor
open Go.ChangeShapes Go.WideShapes Go.ChangeAt Go.RowKit
set_option maxRecDepth 100000 in
/-- An argument []int. -/
theorem open_il {H : Type} {enc : TypeId × Value → H} {w : World} {base : Nat} {spare : Nat → Bool} {held : Bool} {fuel : Nat} {a : Option Addr} {len cap : Nat} {x : DataW H × List MemPlace} (h : DataW.trod enc Tryz.prog w base spare held fuel 28 [.slice a len cap] = some x) :
    ∃ l : List Int, len = l.length ∧ Ints w a l ∧ (∀ i, I64 (l.getD i 0)) ∧ len ≤ 9223372036854775807 := by
  have hML : (maxLen : Nat) = 9223372036854775807 := rfl
  rcases open_ints Tryz.underlying28 Tryz.underlying3 (by kernel_rfl) h with ⟨hcs, _⟩ | ⟨ad, l, c, zs, hcs, _, hl, hm, hz, hd, hcell, hwz⟩
  · simp at hcs
    obtain ⟨rfl, rfl, rfl⟩ := hcs
    exact ⟨[], rfl, fun j hj => (by cases hj), fun i => by simp [I64], by omega⟩
  · simp at hcs
    obtain ⟨rfl, rfl, rfl⟩ := hcs
    have hzl : len ≤ zs.length := by rw [hz]; split <;> omega
    have hlen : (zs.take len).length = len := by simp; omega
    refine ⟨zs.take len, hlen.symm, fun j hj => ?_, fun i => ?_, by omega⟩
    · rw [hlen] at hj
      have hc := hcell j (by omega)
      have hc0 := hcell 0 (by omega)
      obtain ⟨b, off, spot⟩ := ad
      have hspot : spot = none := by simpa [Addr.add] using World.cell?_spot hc0
      subst hspot
      rw [Addr.add_mid] at hc
      refine ⟨b, off, rfl, World.block_lt_of_cell? w _ hc, hc.trans ?_⟩
      simp [hj]
    · by_cases hi : i < (zs.take len).length
      · rw [List.getD_eq_getElem?_getD, List.getElem?_eq_getElem hi]
        exact wf_I64 (hwz _ (List.mem_of_mem_take (List.getElem_mem hi)))
      · rw [List.getD_eq_getElem?_getD, List.getElem?_eq_none (by omega)]
        simp [I64]
set_option maxRecDepth 100000 in
/-- And how long it is in its datum. -/
theorem open_ild {H : Type} {enc : TypeId × Value → H} {w : World} {base : Nat} {spare : Nat → Bool} {held : Bool} {fuel : Nat} {a : Option Addr} {len cap : Nat} {x : DataW H × List MemPlace} (h : DataW.trod enc Tryz.prog w base spare held fuel 28 [.slice a len cap] = some x) :
    len = 0 ∨ ∃ es sp, x.1 = .slice es sp ∧ es.length = len := by
  rcases open_ints Tryz.underlying28 Tryz.underlying3 (by kernel_rfl) h with ⟨hcs, _⟩ | ⟨ad, l, c, zs, hcs, _, hl, hm, hz, hd, hcell, hwz⟩
  · simp at hcs
    exact .inl hcs.2.1
  · simp at hcs
    obtain ⟨rfl, rfl, rfl⟩ := hcs
    have hzl : len ≤ zs.length := by rw [hz]; split <;> omega
    refine .inr ⟨_, _, by rw [hd], ?_⟩
    simp [lits]
    omega
end Go.Proofs.YtkkndlkelpdehaaGreatDoor
