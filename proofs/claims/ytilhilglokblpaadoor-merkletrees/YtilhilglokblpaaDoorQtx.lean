import Derived.Test.YtilhilglokblpaaDoorQtv
import Derived.Test.YtilhilglokblpaaDoorQtk
import Derived.Test.YtilhilglokblpaaDoorQrc
namespace Go.Proofs.YtilhilglokblpaaDoor
open Go.RowKit
set_option maxRecDepth 100000
def upF {α : Type} (f : Nat → α) (k : Nat) (x : α) : Nat → α := fun j => if j = k then x else f j
theorem upF_self {α : Type} (f : Nat → α) (k : Nat) (x : α) : upF f k x k = x := if_pos rfl
theorem upF_ne {α : Type} (f : Nat → α) (k : Nat) (x : α) (j : Nat) (h : j ≠ k) : upF f k x j = f j := if_neg h
theorem upF_id {α : Type} (f : Nat → α) (k : Nat) : upF f k (f k) = f := by
  funext j
  unfold upF
  split
  · rename_i e; rw [e]
  · rfl
/-- two trees at b + 1, b + 2 that have taken the leaves A; the lists L, held by the box at b; the row of the trees at b + 3 -/
structure TsI (w0 : World) (h b : Nat) (W : World) (A L : Nat → List ByteArray) (V : Nat → Value) : Prop where
  bel : Below h w0 W
  box : Blk W b #[V 0, V 1] 39
  row : Blk W (b + 3) #[.pointer (some ⟨b + 1, 0, none⟩), .pointer (some ⟨b + 1 + 1, 0, none⟩)] 25
  tre : ∀ k, k < 2 → TrM W (b + 1 + k) (A k)
  own : ∀ k, k < 2 → W.ownsRow (b + 4) 9 1 (V k) (L k).length ((L k).map Value.string)
  dis : ∀ q, (V 0).ownBlock = some q → (V 1).ownBlock ≠ some q
  len : ∀ k, k < 2 → (L k).length ≤ 4096
  sht : ∀ k, k < 2 → Sht (L k)
  hb : h ≤ b
  sz : b + 4 ≤ W.heap.size
theorem TsI.bel' {w0 : World} {h b : Nat} {W W' : World} {A L : Nat → List ByteArray} {V : Nat → Value} (x : TsI w0 h b W A L V) (hb : Below W.heap.size W W') : TsI w0 h b W' A L V :=
  have hz := x.sz
  have hs := hb.size
  have hh := x.hb
  ⟨x.bel.trans (hb.mono (by omega)), x.box.below hb (by omega), x.row.below hb (by omega), fun k hk => (x.tre k hk).below hb (by omega), fun k hk => own_bel (x.own k hk) hb, x.dis, x.len, x.sht, x.hb, by omega⟩
theorem own_touch2 {w w' : World} {g B n : Nat} {v : Value} {xs : List Value} (hB : g < B) (h : w.ownsRow B 9 1 v n xs) (ht : Touch g w w') : w'.ownsRow B 9 1 v n xs := by
  have hlt := h.lt
  refine ⟨h.1, ?_⟩
  rcases h.2 with hn | ⟨g', cap, cur, rfl, hb, hg, rest⟩
  · exact .inl hn
  · have := (hlt g' rfl).2
    exact .inr ⟨g', cap, cur, rfl, hb, (ht.2 g' (by omega) this).trans hg, rest⟩
theorem TsI.grow {w0 : World} {h b : Nat} {W W' : World} {A L : Nat → List ByteArray} {V : Nat → Value} (x : TsI w0 h b W A L V) (k : Nat) (hk : k < 2) (l' : List ByteArray) (ht : Touch (b + 1 + k) W W') (hT : TrM W' (b + 1 + k) l') : TsI w0 h b W' (upF A k l') L V :=
  have hz := x.sz
  have hs := ht.1.size
  have hh := x.hb
  ⟨x.bel.trans (ht.1.mono (by omega)), x.box.below ht.1 (by omega), x.row.kept (ht.2 (b + 3) (by omega) (by omega)), fun j hj => by
    by_cases e : j = k
    · subst e; rw [upF_self]; exact hT
    · rw [upF_ne _ _ _ _ e]; exact (x.tre j hj).touch ht (by omega), fun j hj => own_touch2 (by omega) (x.own j hj) ht, x.dis, x.len, x.sht, x.hb, by omega⟩
theorem TsI.app {w0 : World} {h b : Nat} {W x5 : World} {A L : Nat → List ByteArray} {V : Nat → Value} (x : TsI w0 h b W A L V) (k : Nat) (hk : k < 2) (t : ByteArray) (hts : t.size ≤ 140737488355000) (hn : (L k).length < 4096) {g5 cap5 : Nat}
    (ho : x5.ownsRow (b + 4) 9 1 (.slice (some ⟨g5, 0, none⟩) ((L k).length + 1) cap5) ((L k).length + 1) ((L k).map Value.string ++ [.string t])) (hg : (W.alloc (.cells #[.string t] 9)).grownBy x5 (V k).ownBlock) (hat : (V k).ownBlock = some g5 ∨ g5 = W.heap.size + 1) :
    TsI w0 h b (x5.setCell ⟨b, k, none⟩ (.slice (some ⟨g5, 0, none⟩) ((L k).length + 1) cap5)) A (upF L k (L k ++ [t])) (upF V k (.slice (some ⟨g5, 0, none⟩) ((L k).length + 1) cap5)) := by
  have hz := x.sz
  have hh := x.hb
  have hB : Below (b + 4) W x5 := ((Below.refl _ W).alloc hz (.cells #[.string t] 9)).grown hg (by simp; omega) (fun q hq => ((x.own k hk).lt q hq).1)
  have hO : Only (fun q => (V k).ownBlock = some q) W x5 := ((Only.refl _ W).alloc (.cells #[.string t] 9)).grown hg (fun _ _ e => e)
  have hs := hB.size
  obtain ⟨nv, hnv⟩ : ∃ nv, Value.slice (some ⟨g5, 0, none⟩) ((L k).length + 1) cap5 = nv := ⟨_, rfl⟩
  have hnb : nv.ownBlock = some g5 := by rw [← hnv]; rfl
  have hTb : Touch b x5 (x5.setCell ⟨b, k, none⟩ nv) := (Touch.refl _ _).setCell _ _
  have hss : (x5.setCell ⟨b, k, none⟩ nv).heap.size = x5.heap.size := by simp
  rw [hnv] at ho ⊢
  have hdd : ∀ j, j < 2 → j ≠ k → ∀ q, (V j).ownBlock = some q → (V k).ownBlock ≠ some q := fun j hj e q hq hq2 => by
    obtain rfl | rfl : k = 0 ∨ k = 1 := by omega
    · obtain rfl : j = 1 := by omega
      exact x.dis q hq2 hq
    · obtain rfl : j = 0 := by omega
      exact x.dis q hq hq2
  have hd2 : ∀ j, j < 2 → j ≠ k → ∀ q, (V j).ownBlock = some q → nv.ownBlock ≠ some q := fun j hj e q hq hq2 => by
    rw [hnb] at hq2
    injection hq2 with hq2
    rcases hat with r | r
    · exact hdd j hj e q hq (by rw [r, hq2])
    · have := ((x.own j hj).lt q hq).2
      omega
  refine ⟨x.bel.trans ((hB.mono (by omega)).trans (hTb.1.mono (by omega))), ?_, (x.row.below hB (by omega)).other _ _ (by show b ≠ b + 3; omega), fun j hj => ((x.tre j hj).below hB (by omega)).touch hTb (by omega), fun j hj => ?_, ?_, fun j hj => ?_, fun j hj => ?_, hh, by omega⟩
  · have := (x.box.below hB (by omega)).set k nv
    obtain rfl | rfl : k = 0 ∨ k = 1 := by omega
    · exact this
    · exact this
  · by_cases e : j = k
    · subst e
      rw [upF_self, upF_self, List.length_append, List.map_append]
      exact own_touch2 (by omega) ho hTb
    · rw [upF_ne _ _ _ _ e, upF_ne _ _ _ _ e]
      exact own_touch2 (by omega) (owns_only (x.own j hj) hO (fun q hq => hdd j hj e q hq)) hTb
  · intro q hq hq2
    obtain rfl | rfl : k = 0 ∨ k = 1 := by omega
    · rw [upF_self] at hq
      rw [upF_ne _ _ _ _ (by omega)] at hq2
      exact hd2 1 (by omega) (by omega) q hq2 hq
    · rw [upF_self] at hq2
      rw [upF_ne _ _ _ _ (by omega)] at hq
      exact hd2 0 (by omega) (by omega) q hq hq2
  · by_cases e : j = k
    · subst e
      rw [upF_self, List.length_append]
      show (L j).length + 1 ≤ 4096
      omega
    · rw [upF_ne _ _ _ _ e]
      exact x.len j hj
  · by_cases e : j = k
    · subst e
      rw [upF_self]
      intro i hi
      rw [List.length_append] at hi
      by_cases e2 : i < (L j).length
      · have := x.sht j hj i e2
        rw [List.getD_eq_getElem?_getD, List.getElem?_append_left e2, ← List.getD_eq_getElem?_getD]
        exact this
      · obtain rfl : i = (L j).length := by simp at hi; omega
        rw [List.getD_eq_getElem?_getD, List.getElem?_append_right (Nat.le_refl _), Nat.sub_self]
        exact hts
    · rw [upF_ne _ _ _ _ e]
      exact x.sht j hj
theorem TsI.cellV {w0 : World} {h b : Nat} {W : World} {A L : Nat → List ByteArray} {V : Nat → Value} (x : TsI w0 h b W A L V) (k : Nat) (hk : k < 2) : W.cell? ⟨b, k, none⟩ = some (V k) ∧ W.frozen? ⟨b, k, none⟩ = false := by
  refine ⟨?_, x.box.frozen k⟩
  rw [x.box.cell k]
  obtain rfl | rfl : k = 0 ∨ k = 1 := by omega
  · rfl
  · rfl
theorem TsI.cellT {w0 : World} {h b : Nat} {W : World} {A L : Nat → List ByteArray} {V : Nat → Value} (x : TsI w0 h b W A L V) (k : Nat) (hk : k < 2) : W.cell? ⟨b + 3, k, none⟩ = some (.pointer (some ⟨b + 1 + k, 0, none⟩)) := by
  rw [x.row.cell k]
  obtain rfl | rfl : k = 0 ∨ k = 1 := by omega
  · rfl
  · rfl
/-- the list of one of them, as it lies -/
theorem TsI.form {w0 : World} {h b : Nat} {W : World} {A L : Nat → List ByteArray} {V : Nat → Value} (x : TsI w0 h b W A L V) (k : Nat) (hk : k < 2) : ∃ p c, V k = .slice p (L k).length c ∧ SB W W.heap.size p (L k) ∧ (L k).length ≤ c ∧ c ≤ 9223372036854775807 := by
  have ho := x.own k hk
  obtain ⟨p, c, e, _⟩ := gr_form ho
  rw [e] at ho
  exact ⟨p, c, e, own_SB rfl ho, (own_ccT ho).1, (own_ccT ho).2⟩
theorem TsI.init (w0 : World) (h b : Nat) (W : World) (hb : Below h w0 W) (hB : h ≤ b) (h0 : Blk W b #[.slice none 0 0, .slice none 0 0] 39) (h1 : TrM W (b + 1) []) (h2 : TrM W (b + 1 + 1) []) (h3 : Blk W (b + 3) #[.pointer (some ⟨b + 1, 0, none⟩), .pointer (some ⟨b + 1 + 1, 0, none⟩)] 25) : TsI w0 h b W (fun _ => []) (fun _ => []) (fun _ => .slice none 0 0) :=
  ⟨hb, h0, h3, fun k hk => by
    obtain rfl | rfl : k = 0 ∨ k = 1 := by omega
    · exact h1
    · exact h2, fun k _ => World.ownsRow_nil _ _ _ _, fun q hq => by simp [Value.ownBlock] at hq, fun _ _ => Nat.zero_le _, fun _ _ j hj => absurd hj (by simp), hB, by have := h3.lt; omega⟩
end Go.Proofs.YtilhilglokblpaaDoor
