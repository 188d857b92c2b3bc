import Derived.Shelf.Spec.SlicesInsertGrow
import Derived.Shelf.SlicesE.DeleteFunc
import Derived.Shelf.SlIterI.Sorted
import Derived.Shelf.SlIterI.Keys
import Derived.Test.YtnkaooafenakdaaGreatDoorProg
import Derived.Test.YtnkaooafenakdaaGreatDoorMr38
namespace Go.Proofs.YtnkaooafenakdaaGreatDoor
open Go.Shelf
def Tryz.insL_ren : Go.Shelf.Ren := ⟨fun | 21 => 114 | 27 => 150 | 28 => 151 | 35 => 183 | 39 => 195 | n => n, fun | 22 => 22 | 3 => 3 | 4 => 4 | 0 => 0 | n => n, fun | n => n⟩
theorem Tryz.insL : Go.Proofs.Lays2.n21 Tryz.prog Tryz.insL_ren := {
  mixed := by kernel_rfl
  f21 := Tryz.func114.trans (congrArg some (by kernel_rfl))
  f27 := Tryz.func150.trans (congrArg some (by kernel_rfl))
  f28 := Tryz.func151.trans (congrArg some (by kernel_rfl))
  f35 := Tryz.func183.trans (congrArg some (by kernel_rfl))
  f39 := Tryz.func195.trans (congrArg some (by kernel_rfl))
  t0 := Tryz.underlying0
  a0 := Tryz.isAgg0
  z0 := Tryz.sizeOf0
  v0 := Tryz.zeroValue0
  t3 := Tryz.underlying3
  a3 := Tryz.isAgg3
  z3 := Tryz.sizeOf3
  v3 := Tryz.zeroValue3
  t4 := Tryz.underlying4
  a4 := Tryz.isAgg4
  z4 := Tryz.sizeOf4
  v4 := Tryz.zeroValue4
  t22 := Tryz.underlying22
  a22 := Tryz.isAgg22
  z22 := Tryz.sizeOf22
  v22 := Tryz.zeroValue22
  i3 := by kernel_rfl }
def Tryz.delL_ren : Go.Shelf.Ren := ⟨fun | 10 => 148 | 6 => 182 | n => n, fun | 22 => 22 | 23 => 3 | 25 => 88 | 3 => 3 | 4 => 4 | 0 => 0 | n => n, fun | n => n⟩
theorem Tryz.delL : Go.Proofs.SlLaysH.n10 Tryz.prog Tryz.delL_ren := {
  mixed := by kernel_rfl
  f6 := ⟨Tryz.f182.name, by decide, Tryz.func182.trans (congrArg some (by kernel_rfl))⟩
  f10 := ⟨Tryz.f148.name, by decide, Tryz.func148.trans (congrArg some (by kernel_rfl))⟩
  t0 := Tryz.underlying0
  a0 := Tryz.isAgg0
  z0 := Tryz.sizeOf0
  v0 := Tryz.zeroValue0
  t3 := Tryz.underlying3
  a3 := Tryz.isAgg3
  z3 := Tryz.sizeOf3
  v3 := Tryz.zeroValue3
  t4 := Tryz.underlying4
  a4 := Tryz.isAgg4
  z4 := Tryz.sizeOf4
  v4 := Tryz.zeroValue4
  t22 := Tryz.underlying22
  a22 := Tryz.isAgg22
  z22 := Tryz.sizeOf22
  v22 := Tryz.zeroValue22
  a23 := Tryz.isAgg3
  z23 := Tryz.sizeOf3
  t25 := Tryz.underlying88
  a25 := Tryz.isAgg88
  z25 := Tryz.sizeOf88
  v25 := Tryz.zeroValue88 }
def Tryz.keysL_ren : Go.Shelf.Ren := ⟨fun | 7 => 47 | 10 => 112 | n => n, fun | 23 => 92 | 26 => 3 | 3 => 9 | 28 => 100 | 0 => 0 | 27 => 99 | 33 => 88 | 4 => 4 | n => n, fun | n => n⟩
theorem Tryz.keysL : Go.Proofs.SlLaysZI.n7 Tryz.prog Tryz.keysL_ren := {
  mixed := by kernel_rfl
  f7 := ⟨Tryz.f47.name, by decide, Tryz.func47.trans (congrArg some (by kernel_rfl))⟩
  f10 := ⟨Tryz.f112.name, by decide, Tryz.func112.trans (congrArg some (by kernel_rfl))⟩
  t0 := Tryz.underlying0
  a0 := Tryz.isAgg0
  z0 := Tryz.sizeOf0
  v0 := Tryz.zeroValue0
  t4 := Tryz.underlying4
  a4 := Tryz.isAgg4
  z4 := Tryz.sizeOf4
  v4 := Tryz.zeroValue4
  t23 := Tryz.underlying92
  a23 := Tryz.isAgg92
  z23 := Tryz.sizeOf92
  v23 := Tryz.zeroValue92
  t26 := Tryz.underlying3
  a26 := Tryz.isAgg3
  z26 := Tryz.sizeOf3
  v26 := Tryz.zeroValue3
  t27 := Tryz.underlying99
  a27 := Tryz.isAgg99
  z27 := Tryz.sizeOf99
  v27 := Tryz.zeroValue99
  t28 := Tryz.underlying100
  a28 := Tryz.isAgg100
  z28 := Tryz.sizeOf100
  v28 := Tryz.zeroValue100
  t33 := Tryz.underlying88
  a33 := Tryz.isAgg88
  z33 := Tryz.sizeOf88
  v33 := Tryz.zeroValue88 }
def Tryz.sortedL_ren : Go.Shelf.Ren := ⟨fun | 6 => 46 | 8 => 110 | 9 => 111 | 11 => 145 | 13 => 147 | 12 => 146 | 23 => 180 | 24 => 181 | 14 => 171 | 15 => 172 | 16 => 173 | 17 => 174 | 18 => 175 | 19 => 176 | 20 => 177 | 21 => 178 | 22 => 179 | 25 => 189 | 26 => 190 | 27 => 191 | 28 => 192 | 29 => 193 | 30 => 194 | 31 => 200 | n => n, fun | 26 => 3 | 28 => 100 | 24 => 22 | 0 => 0 | 3 => 3 | 37 => 155 | 48 => 123 | 50 => 197 | 4 => 4 | 40 => 214 | 39 => 213 | 45 => 217 | 5 => 5 | 9 => 9 | 51 => 228 | 55 => 232 | 57 => 245 | 58 => 246 | 33 => 88 | n => n, fun | n => n⟩
theorem Tryz.sortedL : Go.Proofs.SlLaysZI.n6 Tryz.prog Tryz.sortedL_ren := {
  mixed := by kernel_rfl
  f6 := ⟨Tryz.f46.name, by decide, Tryz.func46.trans (congrArg some (by kernel_rfl))⟩
  f8 := ⟨Tryz.f110.name, by decide, Tryz.func110.trans (congrArg some (by kernel_rfl))⟩
  f11 := ⟨Tryz.f145.name, by decide, Tryz.func145.trans (congrArg some (by kernel_rfl))⟩
  t0 := Tryz.underlying0
  a0 := Tryz.isAgg0
  z0 := Tryz.sizeOf0
  v0 := Tryz.zeroValue0
  t24 := Tryz.underlying22
  a24 := Tryz.isAgg22
  z24 := Tryz.sizeOf22
  v24 := Tryz.zeroValue22
  t26 := Tryz.underlying3
  a26 := Tryz.isAgg3
  z26 := Tryz.sizeOf3
  v26 := Tryz.zeroValue3
  t28 := Tryz.underlying100
  a28 := Tryz.isAgg100
  z28 := Tryz.sizeOf100
  v28 := Tryz.zeroValue100
  i26 := by kernel_rfl }
end Go.Proofs.YtnkaooafenakdaaGreatDoor

namespace Go.Proofs.YtnkaooafenakdaaGreatDoor
open Go.RowKit Go.Maps Go.Sort Go.Shelf
theorem gives149 (k x : Int) (B : Nat) (W : World) (hc : W.cell? ⟨B, 0, none⟩ = some (.int .i64 k)) : FnGives Tryz.prog 149 #[.pointer (some ⟨B, 0, none⟩)] #[.int .i64 x] (.bool (x == k)) W := by
  show Calls Tryz.prog 149 #[.int .i64 x, .pointer (some ⟨B, 0, none⟩)] W _
  go_enter Tryz.func149, Tryz.ntmps149
  go_wp2
  all_goals (go_ret; exact ⟨by simp_all, 0, rfl⟩)
theorem heap_put_same {w : World} {g n : Nat} {cur : Array Value} {e : TypeId} {fr : Nat × Nat} (d : Array Int) (hb : w.heap[g]? = some (.cells cur e fr)) : (putRow encZ (Sort.ahead w n) g 0 d).heap[g]? = some (.cells (putCells encZ 0 d cur) e fr) := by
  simp [putRow, mapBlock, Sort.ahead, Array.getElem?_modify, hb, onCells]
theorem only_put {w : World} {g n : Nat} (d : Array Int) : Only (fun x => x = g) w (putRow encZ (Sort.ahead w n) g 0 d) := by
  refine ⟨⟨rfl, rfl, rfl, by simp [putRow, mapBlock, Sort.ahead], fun k hk => absurd hk (Nat.not_lt_zero k)⟩, fun k hk hne => ?_⟩
  have : g ≠ k := fun e => hne e.symm
  simp [putRow, mapBlock, Sort.ahead, Array.getElem?_modify, this]
theorem take_put (cur : Array Value) (fl zs : List Int) (h : fl.length + zs.length ≤ cur.size) : (putCells encZ 0 (fl ++ zs).toArray cur).toList.take fl.length = fl.map encZ := by
  have h1 := take_putCells_i cur (fl ++ zs) (by simp; omega)
  have h2 := congrArg (List.take fl.length) h1
  rw [List.take_take, List.length_append, Nat.min_eq_left (by omega)] at h2
  rw [h2, List.map_append, List.take_left' (by simp)]
set_option maxRecDepth 100000 in
set_option maxHeartbeats 1000000 in
theorem del_row (w : World) (base B : Nat) (k : Int) (ov : Value) (ks : List Int) (h : w.ownsRow base 3 1 ov ks.length (ks.map encZ)) (hB : B < w.heap.size) (hc : w.cell? ⟨B, 0, none⟩ = some (.int .i64 k)) (hne : ov.ownBlock ≠ some B) (hn : ks.length ≤ 1000000) :
    Calls Tryz.prog 148 #[ov, .func (.func 149) #[] #[.pointer (some ⟨B, 0, none⟩)]] w fun e w' => ∃ ov', e = .returned ov' ∧ w'.ownsRow base 3 1 ov' (ks.filter fun x => !(x == k)).length ((ks.filter fun x => !(x == k)).map encZ) ∧ Only (fun x => ov.ownBlock = some x) w w' ∧ ov'.ownBlock = ov.ownBlock ∧ w'.heap.size = w.heap.size := by
  rcases h.2 with ⟨rfl, h0⟩ | ⟨g, cap, cur, rfl, hbase, hgb, r1, r2, r3, r4⟩
  · have hks : ks = [] := List.eq_nil_of_length_eq_zero h0
    subst hks
    have hI := fun (fv : Value) (W : World) => AnyE.slices_IndexFunc_empty (P := Tryz.prog) (ρ := Tryz.delL_ren) { Tryz.delL with } none 0 fv W
    change ∀ (fv : Value) (W : World), Calls Tryz.prog 182 #[.slice none 0 0, fv] W _ at hI
    clear hc h
    go_enter Tryz.func148, Tryz.ntmps148
    go_wp2_with (go_at_call 182; refine (hI _ _).mono ?_; rintro e w' ⟨rfl, rfl⟩)
    go_ret
    exact ⟨_, rfl, ⟨rfl, .inl ⟨rfl, rfl⟩⟩, Only.refl _ _, rfl, rfl⟩
  · have hgl : g < w.heap.size := (Array.getElem?_eq_some_iff.1 hgb).1
    have hgB : B ≠ g := fun e => hne (by rw [e]; rfl)
    have eg : ∀ args w, (callFunc 149 args).run Tryz.prog w = .ok (.enter 149 args) w := enters_of Tryz.func149 (by kernel_rfl) rfl
    have hH : Holds encZ w g 0 ks.toArray := holds_of_block_i hgb (by simpa using r4)
    have hp : PredAt Tryz.prog 149 #[.pointer (some ⟨B, 0, none⟩)] encZ (fun x => x == k) w := fun W x hb => gives149 k x B W ((hb.cell (p := ⟨B, 0, none⟩) hB).trans hc)
    have hpo : PredOver Tryz.prog 149 #[.pointer (some ⟨B, 0, none⟩)] encZ (fun x => x == k) g 0 ks.toArray.size w := fun n os dk x _ => gives149 k x B _ (by
      unfold sortWorld
      rw [cell?_grow _ _ _ (by show B < (putRow _ _ _ _ _).heap.size; rw [size_putRow]; exact hB), cell?_putRow_other _ _ g 0 _ _ (Or.inl hgB)]
      exact hc)
    have hcon := AnyE.slices_DeleteFunc Tryz.delL encZ (fun _ => rfl) (fun x => x == k) 149 #[.pointer (some ⟨B, 0, none⟩)] eg 0 Tryz.zeroValue3 g 0 cap ks.toArray w hp hpo hH (by simp; omega) (by simpa using r1)
    change Calls Tryz.prog 148 _ _ _ at hcon
    rw [List.size_toArray] at hcon
    refine hcon.mono ?_
    rintro e w' ⟨rfl, q, rfl⟩
    have hfl : (ks.filter fun x => !(x == k)).length ≤ ks.length := List.length_filter_le _ _
    refine ⟨_, rfl, ⟨by simp, .inr ⟨g, cap, _, rfl, hbase, heap_put_same _ hgb, by show (ks.filter fun x => !(x == k)).length ≤ cap; omega, r2, by simp [putCells, r3], ?_⟩⟩, (only_put _).mono (fun x _ e => by rw [e]; rfl), rfl, by simp [putRow, mapBlock, Sort.ahead]⟩
    rw [Nat.mul_one]
    exact take_put cur _ _ (by simp; omega)
end Go.Proofs.YtnkaooafenakdaaGreatDoor

namespace Go.Proofs.YtnkaooafenakdaaGreatDoor
open Go.RowKit Go.Maps Go.Sort Go.Shelf
theorem Blk.setCells {T : TypeId} {b : Nat} : ∀ (vs : List Value) (o : Nat) {w : World} {cur : Array Value}, Blk w b cur T → ∃ cur', Blk (w.setCells b o vs) b cur' T ∧ cur'.size = cur.size
  | [], _, _, cur, h => ⟨cur, h, rfl⟩
  | v :: r, o, w, cur, h => by
    obtain ⟨c', h1, h2⟩ := Blk.setCells r (o + 1) (h.set o v)
    exact ⟨c', h1, by rw [h2]; simp⟩
theorem Only.setCells {P : Nat → Prop} {b : Nat} {w0 : World} : ∀ (vs : List Value) (o : Nat) {w : World}, Only P w0 w → (b < w0.heap.size → P b) → Only P w0 (w.setCells b o vs)
  | [], _, _, h, _ => h
  | v :: r, o, _, h, hb => Only.setCells r (o + 1) (h.setCell ⟨b, o, none⟩ v hb) hb
theorem some_at {w : World} {g : Nat} {cur : Array Value} {T : TypeId} (h : Blk w g cur T) (j : Nat) (hj : j < cur.size) : (w.cell? ⟨g, j, none⟩).isSome = true := by
  rw [h.cell j]; simp [hj]
theorem cells_ab {w : World} {g : Nat} {cur : Array Value} {T : TypeId} (h : Blk w g cur T) (v : Value) (cs : List Value) (hs : cs.length + 1 ≤ cur.size) (j : Nat) (hj : j < cs.length + 1) : ((w.setCells g 1 cs).setCells g 0 [v]).cell? ⟨g, j, none⟩ = (v :: cs)[j]? := by
  obtain ⟨c1, h1, h2⟩ := h.setCells cs 1
  cases j with
  | zero =>
    have := World.cell?_setCells_in g [v] 0 (w.setCells g 1 cs) (fun i hi => some_at h1 _ (by simp at hi; omega)) 0 (by simp)
    simpa using this
  | succ j =>
    rw [World.cell?_setCells_out g [v] 0 _ _ (fun _ _ => Or.inr (by simp))]
    have hj' : j < cs.length := by omega
    have := World.cell?_setCells_in g cs 1 w (fun i hi => some_at h _ (by omega)) j hj'
    rw [Nat.add_comm 1 j] at this
    rw [this]
    simp [hj']
theorem cells_ba {w : World} {g : Nat} {cur : Array Value} {T : TypeId} (h : Blk w g cur T) (v : Value) (cs : List Value) (hv : w.cell? ⟨g, 0, none⟩ = some v) (hs : cs.length + 1 ≤ cur.size) (j : Nat) (hj : j < cs.length + 1) : (w.setCells g 1 cs).cell? ⟨g, j, none⟩ = (v :: cs)[j]? := by
  cases j with
  | zero =>
    rw [World.cell?_setCells_out g cs 1 _ _ (fun _ _ => Or.inl (by simp)), hv]
    rfl
  | succ j =>
    have hj' : j < cs.length := by omega
    have := World.cell?_setCells_in g cs 1 w (fun i hi => some_at h _ (by omega)) j hj'
    rw [Nat.add_comm 1 j] at this
    rw [this]
    simp [hj']
theorem owns_of_cells {w : World} {base g cap n : Nat} {e : TypeId} {cur : Array Value} {xs : List Value} (hb : Blk w g cur e) (hs : cur.size = cap) (hn : n ≤ cap) (hc : cap ≤ maxLen) (hbase : base ≤ g) (hx : xs.length = n) (hcell : ∀ j, j < n → w.cell? ⟨g, j, none⟩ = xs[j]?) : w.ownsRow base e 1 (.slice (some ⟨g, 0, none⟩) n cap) n xs := by
  refine ⟨by simp [hx], .inr ⟨g, cap, cur, rfl, hbase, hb, hn, hc, by simp [hs], ?_⟩⟩
  rw [Nat.mul_one]
  apply List.ext_getElem?
  intro j
  by_cases hj : j < n
  · rw [List.getElem?_take_of_lt hj, ← hcell j hj, hb.cell j, Array.getElem?_toList]
  · rw [List.getElem?_take_eq_none (by omega), List.getElem?_eq_none (by omega)]
theorem shape_of {w : World} {g : Nat} {cur : Array Value} {T : TypeId} (h : Blk w g cur T) : w.shape? g = some (T, cur.size) := by
  unfold World.shape?
  rw [show w.heap[g]? = _ from h]
theorem ints_one (ks : List Int) : ∀ v ∈ ks.map encZ, v.oneCell' = true := fun v hv => by
  obtain ⟨x, _, rfl⟩ := List.mem_map.1 hv
  rfl
set_option maxRecDepth 100000 in
set_option maxHeartbeats 1000000 in
theorem ins_row (w : World) (base vb : Nat) (k : Int) (ov : Value) (ks : List Int) (h : w.ownsRow base 3 1 ov ks.length (ks.map encZ)) (hv : Blk w vb #[.int .i64 k] 3) (hne : ov.ownBlock ≠ some vb) (hbs : base ≤ w.heap.size) (hn : ks.length ≤ 1000000) :
    Calls Tryz.prog 114 #[ov, .int .i64 0, .slice (some ⟨vb, 0, none⟩) 1 1] w fun e w' => ∃ ov', e = .returned ov' ∧ w'.ownsRow base 3 1 ov' (ks.length + 1) ((k :: ks).map encZ) ∧ Only (fun x => ov.ownBlock = some x) w w' ∧ (ov'.ownBlock = ov.ownBlock ∨ ∃ g, ov'.ownBlock = some g ∧ w.heap.size ≤ g) := by
  have hvs : ∀ j v, [Value.int .i64 k][j]? = some v → w.cell? ⟨vb, 0 + j, none⟩ = some v := fun j v hj => by
    cases j with
    | zero => rw [hv.cell]; simpa using hj
    | succ j => simp at hj
  have h1v : ∀ v ∈ [Value.int .i64 k], v.oneCell' = true := fun v hv => by simp at hv; subst hv; rfl
  have hmax : (maxLen : Nat) = 9223372036854775807 := rfl
  have key : ∀ (g cap : Nat) (w' : World) (cur : Array Value), Blk w' g cur 3 → cur.size = cap → ks.length + 1 ≤ cap → cap ≤ maxLen → base ≤ g → (∀ j, j < ks.length + 1 → w'.cell? ⟨g, j, none⟩ = (Value.int .i64 k :: ks.map encZ)[j]?) → w'.ownsRow base 3 1 (.slice (some ⟨g, 0, none⟩) (ks.length + 1) cap) (ks.length + 1) ((k :: ks).map encZ) := fun g cap w' cur a1 a2 a3 a4 a5 a6 =>
    owns_of_cells a1 a2 a3 a4 a5 (by simp) (by rw [List.map_cons]; exact a6)
  have growEnd : ∀ (p : Option Addr) (c : Nat), ks = [] → c < 0 + 1 → Calls Tryz.prog 114 #[.slice p 0 c, .int .i64 0, .slice (some ⟨vb, 0, none⟩) 1 1] w fun e w' => ∃ ov', e = .returned ov' ∧ w'.ownsRow base 3 1 ov' (ks.length + 1) ((k :: ks).map encZ) ∧ Only (fun x => ov.ownBlock = some x) w w' ∧ (ov'.ownBlock = ov.ownBlock ∨ ∃ g, ov'.ownBlock = some g ∧ w.heap.size ≤ g) := fun p c hk0 hc => by
    have hcon := Any2.slices_Insert_int_end_grow Tryz.insL p 0 c vb 0 1 1 [] [.int .i64 k] w (by omega) (by omega) hc (by omega) rfl rfl (fun _ => rfl) (fun a _ j v hj => by simp at hj) hvs h1v
    change Calls Tryz.prog 114 _ _ _ at hcon
    refine hcon.mono ?_
    rintro e w' ⟨rfl, rfl⟩
    have hge := grownCap_ge w (0 + 1) c (Tryz.insL_ren.t 3)
    have hle := grownCap_le_maxLen w (0 + 1) c (Tryz.insL_ren.t 3) (by omega)
    obtain ⟨CP, hCP⟩ : ∃ z, grownCap w (0 + 1) c (Tryz.insL_ren.t 3) = z := ⟨_, rfl⟩
    rw [hCP] at hge hle ⊢
    refine ⟨_, rfl, ?_, Only.alloc (Only.drew (Only.refl _ _)) _, .inr ⟨w.heap.size, rfl, Nat.le_refl _⟩⟩
    subst hk0
    refine key _ CP _ _ (Blk.new _ _ _) (by simp [Builtin.zeroCells, Value.cells]; omega) (by simpa using hge) hle hbs (fun j hj => ?_)
    rw [show (w.drew.alloc _).cell? ⟨w.heap.size, j, none⟩ = _ from (Blk.new w.drew _ _).cell j]
    have : j = 0 := by simp at hj; exact hj
    subst this
    rw [Array.getElem?_append_left (by simp)]
    rfl
  rcases h.2 with ⟨rfl, h0⟩ | ⟨g, cap, cur, rfl, hbase, hgb, r1, r2, r3, r4⟩
  · have hks : ks = [] := List.eq_nil_of_length_eq_zero h0
    exact growEnd none 0 hks (by omega)
  · have hB : Blk w g cur 3 := hgb
    have hgl := hB.lt
    have hgv : vb ≠ g := fun e => hne (by rw [e]; rfl)
    have hsz : cur.size = cap := by omega
    have hcs : ∀ j v, (ks.map encZ)[j]? = some v → w.cell? ⟨g, 0 + j, none⟩ = some v := fun j v hj => by
      rw [Nat.zero_add, hB.cell, ← Array.getElem?_toList]
      have hj' : j < ks.length := by have := (List.getElem?_eq_some_iff.1 hj).1; simpa using this
      have e1 : (cur.toList.take (ks.length * 1))[j]? = (ks.map encZ)[j]? := by rw [r4]
      rw [List.getElem?_take_of_lt (by omega)] at e1
      rw [e1]; exact hj
    by_cases hk0 : ks = []
    · by_cases hc1 : cap < 1
      · subst hk0
        exact growEnd (some ⟨g, 0, none⟩) cap rfl (by omega)
      · have hcon := Any2.slices_Insert_int_end_room Tryz.insL g 0 0 cap vb 0 1 1 [.int .i64 k] w (by omega) (by omega) (by omega) rfl (fun j hj => some_at hB _ (by omega)) (fun j hj => hB.frozen _) hvs h1v
        change Calls Tryz.prog 114 _ _ _ at hcon
        subst hk0
        refine hcon.mono ?_
        rintro e w' ⟨rfl, rfl⟩
        obtain ⟨c1, b1, b2⟩ := hB.setCells [.int .i64 k] (0 + 0)
        refine ⟨_, rfl, key g cap _ c1 b1 (by rw [b2]; exact hsz) (by simp; omega) r2 hbase (fun j hj => ?_), Only.setCells _ _ (Only.refl _ _) (fun _ => rfl), .inl rfl⟩
        have : j = 0 := by simp at hj; exact hj
        subst this
        have := World.cell?_setCells_in g [.int .i64 k] 0 w (fun i hi => some_at hB _ (by simp at hi; omega)) 0 (by simp)
        simpa using this
    · have hpos : 0 < ks.length := List.length_pos_iff.2 hk0
      by_cases hroom : ks.length + 1 ≤ cap
      · have hcon := Any2.slices_Insert_int_shift Tryz.insL g 0 ks.length cap 0 vb 0 1 1 (ks.map encZ) [.int .i64 k] w hpos (by omega) hroom (by omega) hgv (by simp) rfl hcs (fun j hj => some_at hB _ (by omega)) (fun j hj => hB.frozen _) hvs (ints_one ks) h1v 3 3 1 cur.size (shape_of hv) (shape_of hB) (by omega) (hv.frozen _) (hv.frozen _)
        change Calls Tryz.prog 114 _ _ _ at hcon
        refine hcon.mono ?_
        rintro e w' ⟨rfl, rfl⟩
        have hBd : Blk w.drew g cur 3 := hB
        obtain ⟨c1, b1, b2⟩ := hBd.setCells (ks.map encZ) 1
        obtain ⟨c2, b3, b4⟩ := b1.setCells [.int .i64 k] 0
        refine ⟨_, rfl, key g cap _ c2 b3 (by rw [b4, b2]; exact hsz) hroom r2 hbase (fun j hj => ?_), Only.setCells _ _ (Only.setCells _ _ (Only.drew (Only.refl _ _)) (fun _ => rfl)) (fun _ => rfl), .inl rfl⟩
        exact cells_ab hBd _ _ (by simp; omega) j (by simpa using hj)
      · have hcon := Any2.slices_Insert_int_grow Tryz.insL g 0 ks.length cap 0 vb 0 1 1 (ks.map encZ) [.int .i64 k] w hpos (by omega) r1 (by omega) (by omega) (by simp) rfl hcs hvs (ints_one ks) h1v
        change Calls Tryz.prog 114 _ _ _ at hcon
        refine hcon.mono ?_
        rintro e w' ⟨rfl, rfl⟩
        have hge := grownCap_ge w (ks.length + 1) cap (Tryz.insL_ren.t 3)
        have hle := grownCap_le_maxLen w (ks.length + 1) cap (Tryz.insL_ren.t 3) (by omega)
        obtain ⟨CP, hCP⟩ : ∃ z, grownCap w (ks.length + 1) cap (Tryz.insL_ren.t 3) = z := ⟨_, rfl⟩
        rw [hCP] at hge hle ⊢
        obtain ⟨CU, hCU⟩ : ∃ z, ((ks.map encZ).take 0).toArray ++ Builtin.zeroCells (Value.int .i64 0).cells (ks.length + 1 - 0) ++ Builtin.zeroCells (Value.int .i64 0).cells (CP - (ks.length + 1)) = z := ⟨_, rfl⟩
        have hCs : CU.size = CP := by rw [← hCU]; simp [Builtin.zeroCells, Value.cells]; omega
        rw [hCU]
        have hBn : Blk (w.alloc (.cells CU 3)).drew w.heap.size CU 3 := Blk.new w 3 CU
        obtain ⟨c1, b1, b2⟩ := hBn.setCells [.int .i64 k] 0
        have b1' : Blk (((w.alloc (.cells CU 3)).drew.setCells w.heap.size 0 [.int .i64 k]).drew) w.heap.size c1 3 := b1
        obtain ⟨c2, b3, b4⟩ := b1'.setCells (ks.map encZ) 1
        refine ⟨_, rfl, key w.heap.size CP _ c2 b3 (by rw [b4, b2, hCs]) hge hle hbs (fun j hj => ?_), Only.setCells _ _ (Only.drew (Only.setCells _ _ (Only.drew (Only.alloc (Only.refl _ _) _)) (fun q => absurd q (Nat.lt_irrefl _)))) (fun q => absurd q (Nat.lt_irrefl _)), .inr ⟨w.heap.size, rfl, Nat.le_refl _⟩⟩
        have h0 : (((w.alloc (.cells CU 3)).drew.setCells w.heap.size 0 [.int .i64 k]).drew).cell? ⟨w.heap.size, 0, none⟩ = some (.int .i64 k) := by
          have := World.cell?_setCells_in w.heap.size [.int .i64 k] 0 (w.alloc (.cells CU 3)).drew (fun i hi => some_at hBn _ (by simp at hi; omega)) 0 (by simp)
          simpa using this
        exact cells_ba b1' (.int .i64 k) (ks.map encZ) h0 (by rw [b2, hCs]; simp; omega) j (by simpa using hj)
end Go.Proofs.YtnkaooafenakdaaGreatDoor
