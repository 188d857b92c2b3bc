import Derived.Test.YtkkndlkelpdehaaGreatDoorMr21
import Derived.Test.YtkkndlkelpdehaaGreatDoorMr10
import Derived.Deep.RegionHeld3
import Derived.BigQuiet
namespace Go.Proofs.YtkkndlkelpdehaaGreatDoor
open Go.RowKit
/-- A raw write, laid on a free sector. -/
def lwP (x : Wr1) : Wr1 := (((19 + pickP x.1 109 : Nat) : Int), shapB x.2)
/-- A list of writes that may be committed. -/
def lstF : List Wr1 → List Wr1 → List Wr1
  | acc, [] => acc
  | acc, x :: r => if acc.length < 16 then (if (lwP x).1 ∈ secs acc then lstF acc r else lstF (acc ++ [lwP x]) r) else acc
theorem lstF_full (acc raw : List Wr1) (h : ¬ acc.length < 16) : lstF acc raw = acc := by
  cases raw with
  | nil => rfl
  | cons x r => rw [lstF, if_neg h]
theorem lstF_drop (acc raw : List Wr1) (k : Nat) (hk : k < raw.length) (h : acc.length < 16) : lstF acc (raw.drop k) = if (lwP (raw.getD k wr0)).1 ∈ secs acc then lstF acc (raw.drop (k + 1)) else lstF (acc ++ [lwP (raw.getD k wr0)]) (raw.drop (k + 1)) := by
  rw [List.drop_eq_getElem_cons hk, lstF, if_pos h, getD_of hk]
/-- What a list that may be committed is. -/
structure GoodL (l : List Wr1) : Prop where
  len : l.length ≤ 16
  free : ∀ x ∈ l, 19 ≤ x.1 ∧ x.1 < 128
  nodup : (secs l).Nodup
  size : ∀ x ∈ l, x.2.size = 256
theorem lstF_good (raw : List Wr1) : ∀ acc, GoodL acc → GoodL (lstF acc raw) := by
  induction raw with
  | nil => intro acc h; exact h
  | cons x r ih =>
    intro acc h
    unfold lstF
    split
    · rename_i hl
      split
      · exact ih acc h
      · rename_i hn
        refine ih _ ⟨by simp; omega, fun y hy => ?_, ?_, fun y hy => ?_⟩
        · rcases List.mem_append.1 hy with hy | hy
          · exact h.free y hy
          · simp at hy
            subst hy
            have := pickP_lt x.1 109 (by decide)
            show 19 ≤ ((19 + pickP x.1 109 : Nat) : Int) ∧ ((19 + pickP x.1 109 : Nat) : Int) < 128
            omega
        · unfold secs at hn ⊢
          rw [List.map_append, List.nodup_append]
          refine ⟨h.nodup, by simp, fun a ha b hb e => ?_⟩
          simp at hb
          subst hb
          exact hn (e ▸ ha)
        · rcases List.mem_append.1 hy with hy | hy
          · exact h.size y hy
          · simp at hy
            subst hy
            exact shapB_size x.2
    · exact h
theorem GoodL.nil : GoodL [] := ⟨by simp, fun x hx => (by cases hx), List.nodup_nil, fun x hx => (by cases hx)⟩
theorem GoodL.ref {l : List Wr1} (h : GoodL l) : refE l 128 = 0 := by
  have h1 : l.any (freeP 128) = false := List.any_eq_false.2 (fun x hx => by
    have := h.free x hx
    simp [freeP]
    omega)
  have h2 : l.any longP = false := List.any_eq_false.2 (fun x hx => by
    have := h.size x hx
    simp [longP, this])
  rw [refE, if_neg (by have := h.len; omega), h1, if_neg (by decide), if_neg (fun q => q h.nodup), h2, if_neg (by decide)]
/-- Raw writes that lie in memory, and how great they may be. -/
def Wok (l : List Wr1) : Prop := ∀ x ∈ l, I64 x.1 ∧ x.2.size ≤ 140737488355328
def LsI (w : World) (raw : List Wr1) (i : Nat) (v : Value) (wr : World) : Prop :=
  ∃ A, lstF [] raw = lstF A (raw.drop i) ∧ wr.ownsRow w.heap.size 68 2 v A.length (wrv A) ∧ A.length ≤ 16 ∧ Below w.heap.size w wr
theorem secs_mem (A : List Wr1) (z : Int) : z ∈ secs A ↔ ∃ j, j < A.length ∧ (A.getD j wr0).1 = z := by
  constructor
  · intro h
    obtain ⟨x, hx, e⟩ := List.mem_map.1 h
    obtain ⟨j, hj, e2⟩ := List.getElem_of_mem hx
    exact ⟨j, hj, by rw [getD_of hj, e2]; exact e⟩
  · rintro ⟨j, hj, e⟩
    rw [← e, getD_of hj]
    exact List.mem_map.2 ⟨_, List.getElem_mem hj, rfl⟩
def IsI (A : List Wr1) (y1 : Int) (m : Nat) (f : Bool) : Prop := f = true ↔ ∃ j, j < m ∧ (A.getD j wr0).1 = y1
theorem drewN_drewN (w : World) (a b : Nat) : (w.drewN a).drewN b = w.drewN (a + b) := by simp [World.drewN, Nat.add_assoc]
def LsPost (w : World) (raw : List Wr1) (e : Ending) (w' : World) : Prop := ∃ q c', e = .returned (.slice q (lstF [] raw).length c') ∧ Wls w' q (lstF [] raw) ∧ Below w.heap.size w w' ∧ ∀ g o, q = some ⟨g, o, none⟩ → w.heap.size ≤ g
end Go.Proofs.YtkkndlkelpdehaaGreatDoor
