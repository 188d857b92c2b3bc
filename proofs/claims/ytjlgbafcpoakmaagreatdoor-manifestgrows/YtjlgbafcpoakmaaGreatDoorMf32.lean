import Derived.Test.YtjlgbafcpoakmaaGreatDoorMf31
namespace Go.Proofs.YtjlgbafcpoakmaaGreatDoor
open Go.RowKit Go.Maps Go.Sort Go.Shelf
def z120 : Array Value := (List.replicate 120 (.string ⟨#[]⟩)).toArray
theorem infoAr : (Tryz.prog.info? 42).map (fun i => (i.zero, i.size, i.bytes)) = some (some (.agg z120), 120, 1920) := by kernel_rfl
theorem z120_at (j : Nat) (h : j < 120) : z120[j]! = .string ⟨#[]⟩ := by
  rw [getElem!_pos z120 j (by show j < 120; exact h)]
  simp only [z120, List.getElem_toArray, List.getElem_replicate]
theorem made_mC (n : Nat) : madeCells z120 (n * 120) = mC n (fun _ _ => none) := by
  apply Array.ext_getElem?
  intro i
  by_cases hi : i < n * 120
  · rw [mC_get n _ i hi]
    have h1 : (if i % 2 = 0 then vtD none else vtW none) = (⟨#[]⟩ : ByteArray) := by split <;> rfl
    rw [h1, Array.getElem?_eq_getElem (by simp [madeCells]; exact hi)]
    simp only [madeCells, Array.getElem_map, Array.getElem_range]
    rw [show z120.size = 120 from rfl, z120_at _ (Nat.mod_lt _ (by decide))]
  · rw [mC_out n _ i hi]
    simp [madeCells]; omega
theorem emake (n : Nat) (hn : n ≤ 24) (w : World) : (Instr.makeSlice 33 (.int .i64 (n : Int)) (.int .i64 (n : Int))).run Tryz.prog w = .ok (.slice (some ⟨w.heap.size, 0, none⟩) n n) (w.alloc (.cells (mC n (fun _ _ => none)) 42)) := by
  have h := infoAr
  cases hq : Tryz.prog.info? 42 with
  | none => rw [hq] at h; cases h
  | some i =>
    rw [hq] at h
    simp only [Option.map_some, Option.some.injEq, Prod.mk.injEq] at h
    obtain ⟨hz, hs, hbt⟩ := h
    have := run_makeSlice (P := Tryz.prog) w 33 42 i _ Tryz.underlying33 hq hz .i64 .i64 (n : Int) (n : Int) (by omega) (by omega) (by rw [hs, Int.toNat_natCast]; omega) (by rw [hbt]; omega) (by omega)
    rw [Int.toNat_natCast, hs] at this
    rw [← made_mC]
    exact this
theorem TM_new {Z : Nat → Prop} {gr nv : Nat} {x : World} {pv : Option Addr} {cv base : Nat} (hr : x.ownsRow base 3 1 (.slice pv nv cv) nv ((List.range nv).map (fun (j : Nat) => Value.int .i64 (j : Int)))) (hp : pv = some ⟨gr, 0, none⟩) : TMm (x.alloc (.cells (mC nv (fun _ _ => none)) 42)) Z gr 0 nv x.heap.size (fun _ _ => none) (x.alloc (.cells (mC nv (fun _ _ => none)) 42)) := by
  subst hp
  have hI : Ints x (some ⟨gr, 0, none⟩) ((List.range nv).map (fun (j : Nat) => (j : Int))) := ints_own (base := base) (m := nv) (c := cv) (by rw [List.map_map, List.length_map, List.length_range]; exact hr)
  refine ⟨Blk.new x _ _, fun j hj => ?_, Only.refl _ _⟩
  obtain ⟨g, o, e, hl, hc⟩ := hI j (by simpa using hj)
  simp only [Option.some.injEq, Addr.mk.injEq] at e
  obtain ⟨rfl, rfl, _⟩ := e
  refine only_cell ((Only.refl (fun _ => False) x).alloc _) ?_ (fun q => q)
  rw [hc]
  simp [List.getElem?_range hj]
def alN (v : Vol) (b t : Nat) : Bool := (List.range t).all (fun j => (ups v.e b none (3 * (b / 3) + j)).isNone)
theorem alN_succ (v : Vol) (b t : Nat) : alN v b (t + 1) = (alN v b t && (ups v.e b none (3 * (b / 3) + t)).isNone) := by
  simp [alN, List.range_succ]
theorem alN_three (v : Vol) (b : Nat) : alN v b 3 = !nbr v b := by
  rw [alN_succ, alN_succ, alN_succ, nbr]
  cases ups v.e b none (3 * (b / 3) + 0) <;> cases ups v.e b none (3 * (b / 3) + 1) <;> cases ups v.e b none (3 * (b / 3) + 2) <;> rfl
theorem gro_alone {M : List ByteArray} {n m : Nat} {T : Nat → Bool} {V : Nat → Vol} (h : VS M n m T V) (k : Nat) (hk : k < m) (b : Nat) (hb : b < 60) : gro (V k) b = if alN (V k) b 3 = true ∧ (V k).e b = none then 1 else 0 := by
  have hm := h.em k hk (b / 3) (by omega)
  rw [alN_three]
  unfold gro
  by_cases e : (V k).lf (b / 3) = 0
  · rw [if_pos e, if_pos]
    have h3 := hm.1 e
    have hb' : (V k).e b = none := by have := h3 (b % 3) (by omega); rwa [div3] at this
    refine ⟨?_, hb'⟩
    cases hN : nbr (V k) b with
    | false => rfl
    | true =>
      obtain ⟨j, hj, hne⟩ := nbr_true hN
      exfalso
      apply hne
      by_cases q : 3 * (b / 3) + j = b
      · rw [q, ups_same]
      · rw [ups_other _ _ q]; exact h3 j hj
  · rw [if_neg e, if_neg]
    rintro ⟨h1, h2⟩
    have hN : nbr (V k) b = false := by simpa using h1
    apply e
    refine hm.2 (fun j hj => ?_)
    have h4 := nbr_false hN j hj
    by_cases q : 3 * (b / 3) + j = b
    · rw [q]; exact h2
    · rwa [ups_other _ _ q] at h4
theorem shr_alone {V V' : Nat → Vol} {k b : Nat} {e : Ent} (hp : Put V V' k b e) : shr (V' k) b = if alN (V k) b 3 = true then 1 else 0 := by
  have hu : ups (V' k).e b none = ups (V k).e b none := by
    funext i
    by_cases q : i = b
    · rw [q, ups_same, ups_same]
    · rw [ups_other _ _ q, ups_other _ _ q, hp.2 k i, if_neg (fun r => q r.2)]
  have hn : nbr (V' k) b = nbr (V k) b := by unfold nbr; rw [hu]
  rw [shr, hn, alN_three]
  cases nbr (V k) b <;> rfl
end Go.Proofs.YtjlgbafcpoakmaaGreatDoor
