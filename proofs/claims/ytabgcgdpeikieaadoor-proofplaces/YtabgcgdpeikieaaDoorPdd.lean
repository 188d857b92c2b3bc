import Derived.Test.YtabgcgdpeikieaaDoorPba
namespace Go.Proofs.YtabgcgdpeikieaaDoor
open Go.RowKit
set_option maxRecDepth 100000
/-- A place is chosen, unless it came already or there are enough. -/
def addP (S : List Nat) (p : Nat) : List Nat := if S.length = 8 ∨ p ∈ S then S else S ++ [p]
def addsP (S : List Nat) : List Nat → List Nat
  | [] => S
  | p :: l => addsP (addP S p) l
theorem addsP_append (S : List Nat) : ∀ (l m : List Nat), addsP S (l ++ m) = addsP (addsP S l) m
  | [], _ => rfl
  | p :: l, m => by rw [List.cons_append, addsP, addsP, addsP_append (addP S p) l m]
theorem addsP_snoc (S : List Nat) (l : List Nat) (p : Nat) : addsP S (l ++ [p]) = addP (addsP S l) p := by rw [addsP_append]; rfl
/-- What a choice is: different places below 256, eight at most. -/
structure Chs (S : List Nat) : Prop where
  nodup : S.Nodup
  lt : ∀ p, p ∈ S → p < 256
  len : S.length ≤ 8
theorem Chs.nil : Chs [] := ⟨List.nodup_nil, fun _ h => absurd h List.not_mem_nil, by simp⟩
theorem Chs.add {S : List Nat} (h : Chs S) (p : Nat) (hp : p < 256) : Chs (addP S p) := by
  unfold addP
  split
  · exact h
  · rename_i q
    refine ⟨?_, fun x hx => ?_, ?_⟩
    · rw [List.nodup_append]
      refine ⟨h.nodup, by simp, fun a ha b hb => ?_⟩
      rw [List.mem_singleton] at hb
      subst hb
      intro e
      subst e
      exact q (.inr ha)
    · rw [List.mem_append, List.mem_singleton] at hx
      rcases hx with hx | rfl
      · exact h.lt x hx
      · exact hp
    · have := h.len
      rw [List.length_append, List.length_singleton]
      have : S.length ≠ 8 := fun e => q (.inl e)
      omega
theorem Chs.adds : ∀ {S : List Nat} (_ : Chs S) (l : List Nat) (_ : ∀ p, p ∈ l → p < 256), Chs (addsP S l)
  | _, h, [], _ => h
  | _, h, p :: l, hl => (h.add p (hl p (by simp))).adds l (fun q hq => hl q (by simp [hq]))
theorem mem_addP {S : List Nat} {p x : Nat} (h : x ∈ S) : x ∈ addP S p := by
  unfold addP
  split
  · exact h
  · simp [h]
theorem mem_addsP : ∀ (l : List Nat) {S : List Nat} {x : Nat} (_ : x ∈ S), x ∈ addsP S l
  | [], _, _, h => h
  | _ :: l, _, _, h => mem_addsP l (mem_addP h)
theorem addP_full {S : List Nat} (h : S.length = 8) (p : Nat) : addP S p = S := by simp [addP, h]
theorem addsP_full : ∀ (l : List Nat) {S : List Nat} (_ : S.length = 8), addsP S l = S
  | [], _, _ => rfl
  | p :: l, S, h => by rw [addsP, addP_full h, addsP_full l h]
/-- All of a list are chosen, or there are enough. -/
theorem addsP_all : ∀ (l : List Nat) (S : List Nat), (addsP S l).length = 8 ∨ ∀ x, x ∈ l → x ∈ addsP S l
  | [], _ => .inr (fun _ h => absurd h List.not_mem_nil)
  | p :: l, S => by
    rcases addsP_all l (addP S p) with h | h
    · exact .inl h
    · by_cases hf : S.length = 8
      · refine .inl ?_
        rw [addsP, addP_full hf, addsP_full l hf]
        exact hf
      · refine .inr (fun x hx => ?_)
        rcases List.mem_cons.1 hx with rfl | hx
        · refine mem_addsP l ?_
          unfold addP
          split
          · rename_i q
            exact q.resolve_left hf
          · simp
        · exact h x hx
theorem addsP_mem {S : List Nat} : ∀ (l : List Nat), (∀ x, x ∈ l → S.length = 8 ∨ x ∈ S) → addsP S l = S
  | [], _ => rfl
  | p :: l, h => by
    have : addP S p = S := by
      unfold addP
      rw [if_pos (h p (by simp))]
    rw [addsP, this]
    exact addsP_mem l (fun x hx => h x (by simp [hx]))
/-- As many numbers below n are in a list as it has. -/
theorem filter_len : ∀ (n : Nat) (S : List Nat), S.Nodup → (∀ p, p ∈ S → p < n) → ((List.range n).filter (fun p => decide (p ∈ S))).length = S.length
  | 0, S, _, h => by
    cases S with
    | nil => rfl
    | cons a S => exact absurd (h a (by simp)) (by omega)
  | n + 1, S, hd, h => by
    rw [List.range_succ, List.filter_append, List.length_append]
    by_cases hn : n ∈ S
    · have ih := filter_len n (S.erase n) (hd.erase n) (fun p hp => by
        have := (List.Nodup.mem_erase_iff hd).1 hp
        have := h p this.2
        omega)
      have e : (List.range n).filter (fun p => decide (p ∈ S)) = (List.range n).filter (fun p => decide (p ∈ S.erase n)) := by
        refine List.filter_congr (fun p hp => ?_)
        have hpn : p < n := List.mem_range.1 hp
        have : p ∈ S ↔ p ∈ S.erase n := ⟨fun q => (List.Nodup.mem_erase_iff hd).2 ⟨by omega, q⟩, fun q => ((List.Nodup.mem_erase_iff hd).1 q).2⟩
        simp [this]
      have hl := List.length_erase_of_mem hn
      have hpos : 0 < S.length := List.length_pos_of_mem hn
      rw [e, ih, hl]
      simp [hn]
      omega
    · have ih := filter_len n S hd (fun p hp => by
        have := h p hp
        have : p ≠ n := fun e => hn (e ▸ hp)
        omega)
      rw [ih]
      simp [hn]
theorem adds_range {S : List Nat} (h : Chs S) : (addsP S (List.range 256)).length = 8 := by
  rcases addsP_all (List.range 256) S with q | q
  · exact q
  · have hc := h.adds (List.range 256) (fun p hp => List.mem_range.1 hp)
    have hl := filter_len 256 _ hc.nodup hc.lt
    have e : (List.range 256).filter (fun p => decide (p ∈ addsP S (List.range 256))) = List.range 256 := List.filter_eq_self.2 (fun p hp => by simp [q p hp])
    rw [e, List.length_range] at hl
    have := hc.len
    omega
/-- A choice's cells. -/
def chA (S : List Nat) : Array Value := ((List.range 256).map (fun p => Value.bool (decide (p ∈ S))) ++ [Value.int .i64 (S.length : Int)]).toArray
theorem chA_size (S : List Nat) : (chA S).size = 257 := by simp [chA]
theorem chA_at (S : List Nat) (p : Nat) (h : p < 256) : (chA S)[p]? = some (.bool (decide (p ∈ S))) := by
  simp [chA, List.getElem?_append, h]
theorem chA_n (S : List Nat) : (chA S)[256]? = some (.int .i64 (S.length : Int)) := by simp [chA]
theorem chA_add (S : List Nat) (p : Nat) (h : p < 256) : ((chA S).setIfInBounds p (.bool true)).setIfInBounds 256 (.int .i64 ((S.length : Int) + 1)) = chA (S ++ [p]) := by
  apply Array.ext_getElem?
  intro j
  rw [Array.getElem?_setIfInBounds, Array.getElem?_setIfInBounds]
  by_cases h1 : 256 = j
  · subst h1
    rw [if_pos rfl, chA_n (S ++ [p]), if_pos (by rw [Array.size_setIfInBounds, chA_size]; omega), List.length_append, List.length_singleton]
    rfl
  · rw [if_neg h1]
    by_cases h2 : p = j
    · subst h2
      rw [if_pos rfl, chA_at (S ++ [p]) _ h, if_pos (by rw [chA_size]; omega)]
      simp
    · rw [if_neg h2]
      by_cases h3 : j < 256
      · rw [chA_at S _ h3, chA_at (S ++ [p]) _ h3]
        have : (j ∈ S ++ [p]) ↔ j ∈ S := by
          rw [List.mem_append, List.mem_singleton]
          exact ⟨fun q => q.resolve_right (fun e => h2 e.symm), .inl⟩
        simp only [this]
      · rw [Array.getElem?_eq_none (by rw [chA_size]; omega), Array.getElem?_eq_none (by rw [chA_size]; omega)]
/-- The places of the derived bytes: of few, of many. -/
def plS (few many : List Nat) : List Nat := addsP (if (addsP [] few).length = 8 then addsP [] few else addsP (addsP [] few) many) (List.range 256)
def plR (S : List Nat) : List Nat := (List.range 256).filter (fun p => decide (p ∈ S))
theorem plS_chs (few many : List Nat) (h1 : ∀ p, p ∈ few → p < 256) (h2 : ∀ p, p ∈ many → p < 256) : Chs (plS few many) ∧ (plS few many).length = 8 := by
  have hc := Chs.nil.adds few h1
  unfold plS
  split
  · exact ⟨hc.adds _ (fun p hp => List.mem_range.1 hp), adds_range hc⟩
  · exact ⟨(hc.adds many h2).adds _ (fun p hp => List.mem_range.1 hp), adds_range (hc.adds many h2)⟩
theorem plR_len {S : List Nat} (h : Chs S) (h8 : S.length = 8) : (plR S).length = 8 := by
  unfold plR
  rw [filter_len 256 S h.nodup h.lt, h8]
end Go.Proofs.YtabgcgdpeikieaaDoor
