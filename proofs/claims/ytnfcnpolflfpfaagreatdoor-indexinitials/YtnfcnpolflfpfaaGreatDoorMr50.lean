import Derived.Test.YtnfcnpolflfpfaaGreatDoorMr49
import Derived.Maps.AppendAt
import Derived.Laws.OwnMore
namespace Go.Proofs.YtnfcnpolflfpfaaGreatDoor
open Go.RowKit Go.Maps Go.Sort Go.Shelf
theorem own_formI {w : World} {B : Nat} {e : TypeId} {k n : Nat} {v : Value} {xs : List Value} (h : w.ownsRow B e k v n xs) (hn : 0 < n) : ∃ g cap, v = .slice (some ⟨g, 0, none⟩) n cap := by
  rcases h.2 with ⟨_, q⟩ | ⟨g, cap, cur, q, _⟩
  · omega
  · exact ⟨g, cap, q⟩
set_option maxRecDepth 100000 in
theorem run_old {w : World} (base : Nat) (ty : TypeId) (i : TypeInfo) (hi : Tryz.prog.info? 9 = some i) (hz : i.zero = some (.string ⟨#[]⟩)) (hsize : i.size = 1) (hby : i.bytes = 16)
    (v : Value) (n : Nat) (xs : List Value) (hown : w.ownsRow base 9 1 v n xs) (a : Addr) (u : Value) (hnews : ∀ j y, [u][j]? = some y → w.cell? (a.add j) = some y) (h1 : u.oneCell' = true) (hn : n ≤ 1000) (hbase : base ≤ w.heap.size) :
    ∃ v' w', (Builtin.append_ #[35, 35] ty #[v, .slice (some a) 1 1]).run Tryz.prog w = .ok v' w' ∧ w'.ownsRow base 9 1 v' (n + 1) (xs ++ [u]) ∧ w.grownBy w' v.ownBlock ∧ (v'.ownBlock = v.ownBlock ∨ v'.ownBlock = some w.heap.size) ∧
      ∀ g, v.ownBlock = some g → ∀ j y, xs[j]? = some y → w'.cell? ⟨g, j, none⟩ = some y := by
  have h63 : n + 1 ≤ maxLen := by unfold maxLen; omega
  have h1' : ∀ y ∈ [u], y.oneCell' = true := fun y hy => by rw [List.mem_singleton.1 hy]; exact h1
  obtain ⟨v', w', hr, h2, h3, h4, h5⟩ := run_append_own_at (P := Tryz.prog) w base 35 ty 9 i (.string ⟨#[]⟩) 1 16 Tryz.underlying35 hi hz hsize hby rfl (by decide) v n xs hown a 1 1 [u] rfl hnews h1' h63 (by omega) hbase
  refine ⟨v', w', hr, h2, h3, h5, fun g hg j y hy => ?_⟩
  have hj : j < n := by
    have := (List.getElem?_eq_some_iff.1 hy).1
    have := hown.1
    omega
  rcases h5 with e | e
  · rw [(own_at h2 (e.trans hg) j (by omega)).1, List.getElem?_append_left (by have := hown.1; omega)]
    exact hy
  · rcases hown.2 with ⟨rfl, _⟩ | ⟨g', cap, cur, rfl, hbg, hgg, hnc, hcm, hcs, htake⟩
    · simp [Value.ownBlock] at hg
    · obtain rfl : g' = g := by simpa [Value.ownBlock] using hg
      have hlt := (hown.lt g' rfl).2
      by_cases hroom : n + 1 ≤ cap
      · have hr2 := run_append_room (P := Tryz.prog) w 35 ty 9 i Tryz.underlying35 hi g' n cap cur hgg a 1 1 [u] (by rw [hsize]; rfl) hnews h1' hroom (by rw [hsize, hcs]; simp; omega)
        have e0 := hr.symm.trans hr2
        injection e0 with e1 e2
        rw [e1] at e
        simp [Value.ownBlock] at e
        omega
      · have hr2 := run_append_grow (P := Tryz.prog) w 35 ty 9 i (.string ⟨#[]⟩) Tryz.underlying35 hi hz ⟨g', 0, none⟩ n cap xs (by rw [hsize]; exact hown.1) (hown.cells (g := g') rfl) a 1 1 [u] (by rw [hsize]; rfl) hnews (by omega) (by omega) (growslice_fits (by omega) (by rw [hby]; omega))
        have e0 := hr.symm.trans hr2
        injection e0 with e1 e2
        rw [e2]
        have hb : Below w.heap.size w (w.drew.alloc (.cells (xs.toArray ++ [u].toArray ++ Builtin.zeroCells (Value.string ⟨#[]⟩).cells (grownCap w (n + 1) cap 9 - (n + 1))) 9)) := ((Below.refl _ _).drew).alloc (Nat.le_refl _) _
        rw [hb.cell (p := ⟨g', j, none⟩) hlt]
        exact (own_at hown rfl j hj).1.trans hy
theorem wpL_old {w : World} {ops : Array Oper} {rest : List Oper} {o : Oper} {a : Act} {Q : Exit → Act → World → Prop} (hgd : o.guard = none) (s x : Operand)
    (ho : o.op = .call { callee := .builtin .append, args := #[s, x], argTypes := #[35, 35] })
    (base : Nat) (v : Value) (n : Nat) (xs : List Value) (hs : a.eval s = v) (hown : w.ownsRow base 9 1 v n xs) (ad : Addr) (u : Value) (hx : a.eval x = .slice (some ad) 1 1) (hnews : ∀ j y, [u][j]? = some y → w.cell? (ad.add j) = some y) (h1 : u.oneCell' = true) (hn : n ≤ 1000) (hbase : base ≤ w.heap.size)
    (h : ∀ v' w', w'.ownsRow base 9 1 v' (n + 1) (xs ++ [u]) → w.grownBy w' v.ownBlock → (v'.ownBlock = v.ownBlock ∨ v'.ownBlock = some w.heap.size) → (∀ g, v.ownBlock = some g → ∀ j y, xs[j]? = some y → w'.cell? ⟨g, j, none⟩ = some y) → wpList Tryz.prog ops Q rest (a.put o.dst v') w') :
    wpList Tryz.prog ops Q (o :: rest) a w := by
  obtain ⟨i, hi, hz, hsz, hby⟩ := info_parts infoS
  refine wpList_plain hgd fun K hK => ?_
  obtain ⟨v', w', hr, h2, h3, h4, h5⟩ := run_old base o.type i hi hz hsz hby v n xs hown ad u hnews h1 hn hbase
  unfold Oper.wp execOp
  simp only [ho, resolve, invoke, builtin, Sem.run_bind, Sem.run_pure, Result.andThen_ok, List.map_toArray, List.map_cons, List.map_nil, hs, hx, hr]
  exact hK _ _ (h v' w' h2 h3 h4 h5)
/-- The first n elements of a slice of m are the string s. -/
def Cv (w : World) (v : Value) (m n : Nat) (s : ByteArray) : Prop := ∀ i, i < n → ∃ g c, v = .slice (some ⟨g, 0, none⟩) m c ∧ g < w.heap.size ∧ w.cell? ⟨g, i, none⟩ = some (.string s)
theorem Cv.below {w w' : World} {v : Value} {m n : Nat} {s : ByteArray} (h : Cv w v m n s) (hb : Below w.heap.size w w') : Cv w' v m n s := fun i hi => by
  obtain ⟨g, c, e, hg, hc⟩ := h i hi
  exact ⟨g, c, e, Nat.lt_of_lt_of_le hg hb.size, by rw [hb.cell (p := ⟨g, i, none⟩) hg]; exact hc⟩
theorem cell_grown {w w' : World} {r : Option Nat} (hg : w.grownBy w' r) {g i : Nat} (h1 : g < w.heap.size) (h2 : some g ≠ r) : w'.cell? ⟨g, i, none⟩ = w.cell? ⟨g, i, none⟩ := by
  have := hg.block g h1 h2
  simp only [World.cell?, this]
theorem Cv.grown {w w' : World} {v : Value} {m n : Nat} {s : ByteArray} {r : Option Nat} (h : Cv w v m n s) (hg : w.grownBy w' r) (hne : ∀ x, v.ownBlock = some x → r ≠ some x) : Cv w' v m n s := fun i hi => by
  obtain ⟨g, c, e, h1, hc⟩ := h i hi
  refine ⟨g, c, e, Nat.lt_of_lt_of_le h1 hg.size, ?_⟩
  rw [cell_grown hg h1 (fun q => hne g (by rw [e]; rfl) q.symm)]
  exact hc
theorem Cv.of_own {w : World} {base : Nat} {v : Value} {n : Nat} {xs : List Value} {s : ByteArray} (h : w.ownsRow base 9 1 v n xs) (hx : ∀ i, i < n → xs[i]? = some (.string s)) : Cv w v n n s := fun i hi => by
  obtain ⟨g, c, e⟩ := own_formI h (by omega)
  refine ⟨g, c, e, (h.lt g (by rw [e]; rfl)).2, ?_⟩
  rw [(own_at h (by rw [e]; rfl) i hi).1]
  exact hx i hi
/-- Apart: two slices lie in different blocks. -/
def Apt (v u : Value) : Prop := ∀ x, v.ownBlock = some x → u.ownBlock ≠ some x
theorem Apt.symm {v u : Value} (h : Apt v u) : Apt u v := fun x hx q => h x q hx
theorem Apt.of_base {w1 w2 : World} {b1 b2 s1 s2 n1 n2 : Nat} {e1 e2 : TypeId} {v1 v2 : Value} {x1 x2 : List Value} (h1 : w1.ownsRow b1 e1 s1 v1 n1 x1) (h2 : w2.ownsRow b2 e2 s2 v2 n2 x2) (h : w1.heap.size ≤ b2) : Apt v1 v2 := fun x hx q => by
  have := (h1.lt x hx).2
  have := (h2.lt x q).1
  omega
theorem own_grown {w w' : World} {base : Nat} {e : TypeId} {size n : Nat} {v : Value} {xs : List Value} {r : Value} (h : w.ownsRow base e size v n xs) (hg : w.grownBy w' r.ownBlock) (ha : Apt v r) : w'.ownsRow base e size v n xs := h.kept hg (by
  cases hy : v.ownBlock with
  | none => exact .inl rfl
  | some b => exact .inr (fun q => ha b hy q.symm))
end Go.Proofs.YtnfcnpolflfpfaaGreatDoor
