import Derived.Test.YtabgcgdpeikieaaDoorPdc
namespace Go.Proofs.YtabgcgdpeikieaaDoor
open Go.RowKit Go.Conc
set_option maxRecDepth 100000
theorem results_cc {fn : Func} {p q : Tmp} {ty ty2 : TypeId} (h : fn.results = #[.cell p ty, .cell q ty2]) (tmps : Array Value) (P : Program) (w : World) (ad ad2 : Addr) (ha : tmps.getD p undef = .pointer (some ad)) (hb : tmps.getD q undef = .pointer (some ad2)) (v v2 : Value) (hl : (loadVar ty ad).run P w = .ok v w) (hl2 : (loadVar ty2 ad2).run P w = .ok v2 w) :
    (results fn tmps).run P w = .ok (.tuple #[v, v2]) w := by
  have ha' : tmps[p]?.getD undef = .pointer (some ad) := by simpa using ha
  have hb' : tmps[q]?.getD undef = .pointer (some ad2) := by simpa using hb
  simp only [results, h]
  simp [ha', hb', asAddr, hl, hl2]
set_option maxHeartbeats 1000000 in
theorem take1_no {w : World} {g3 g4 g5 : Nat} {m : Int} (x : Chl) (h3 : Blk w g3 #[.int .i64 m] 3) (hx : x.n ≠ m) :
    Calls Tryd.prog 53 #[.agg x.cs, .pointer (some ⟨g3, 0, none⟩), .pointer (some ⟨g4, 0, none⟩), .pointer (some ⟨g5, 0, none⟩)] w fun e w' => e = .returned (.bool true) ∧ Below w.heap.size w w' := by
  obtain ⟨n, v, k, d, q, p⟩ := x
  simp only [Chl.cs] at hx ⊢
  obtain ⟨y, hy⟩ : ∃ Z, w.alloc (.cells #[.int .i64 n, .int .i64 v, .int .i64 k, .string d, .string q, .int .i64 (p 0), .int .i64 (p 1), .int .i64 (p 2), .int .i64 (p 3), .int .i64 (p 4), .int .i64 (p 5), .int .i64 (p 6), .int .i64 (p 7)] 84) = Z := ⟨_, rfl⟩
  have hb : Below w.heap.size w y := by rw [← hy]; exact (Below.refl _ _).alloc (Nat.le_refl _) _
  have c3 : y.cell? ⟨g3, 0, none⟩ = some (.int .i64 m) := by rw [(h3.below hb h3.lt).cell]; rfl
  have c4 : y.cell? ⟨w.heap.size, 0, none⟩ = some (.int .i64 n) := by rw [← hy, (Blk.new w _ _).cell]; rfl
  have HB := hide hb
  have i1 : (n == m) = false := by rw [beq_eq_false_iff_ne]; exact hx
  clear h3 hb
  go_enter Tryd.func53, Tryd.ntmps53
  go_wp2
  go_ret
  exact ⟨rfl, unhide HB⟩
set_option maxHeartbeats 1000000 in
theorem take1_yes {w : World} {g3 g4 g5 : Nat} {m : Int} {A : Array Value} {t : Bool} (x : Chl) (h3 : Blk w g3 #[.int .i64 m] 3) (h4 : Blk w g4 A 84) (hA : A.size = 13) (h5 : Blk w g5 #[.bool t] 4) (hx : x.n = m) :
    Calls Tryd.prog 53 #[.agg x.cs, .pointer (some ⟨g3, 0, none⟩), .pointer (some ⟨g4, 0, none⟩), .pointer (some ⟨g5, 0, none⟩)] w fun e w' => e = .returned (.bool false) ∧ Blk w' g3 #[.int .i64 m] 3 ∧ Blk w' g4 x.cs 84 ∧ Blk w' g5 #[.bool true] 4 ∧ Only (fun k => k = g4 ∨ k = g5) w w' := by
  have h34 : g3 ≠ g4 := by rintro rfl; have e : (some (Obj.cells #[.int .i64 m] 3 (0, 0))) = some (Obj.cells A 84 (0, 0)) := (show w.heap[g3]? = _ from h3).symm.trans h4; injection e with e; injection e with _ e; cases e
  have h35 : g3 ≠ g5 := by rintro rfl; have e : (some (Obj.cells #[.int .i64 m] 3 (0, 0))) = some (Obj.cells #[.bool t] 4 (0, 0)) := (show w.heap[g3]? = _ from h3).symm.trans h5; injection e with e; injection e with _ e; cases e
  have h45 : g4 ≠ g5 := by rintro rfl; have e : (some (Obj.cells #[.bool t] 4 (0, 0))) = some (Obj.cells A 84 (0, 0)) := (show w.heap[g4]? = _ from h5).symm.trans h4; injection e with e; injection e with _ e; cases e
  obtain ⟨n, v, k, d, q, p⟩ := x
  simp only [Chl.cs] at hx ⊢
  subst hx
  obtain ⟨X, hX⟩ : ∃ X : Array Value, #[.int .i64 n, .int .i64 v, .int .i64 k, .string d, .string q, .int .i64 (p 0), .int .i64 (p 1), .int .i64 (p 2), .int .i64 (p 3), .int .i64 (p 4), .int .i64 (p 5), .int .i64 (p 6), .int .i64 (p 7)] = X := ⟨_, rfl⟩
  obtain ⟨y, hy⟩ : ∃ Z, w.alloc (.cells #[.int .i64 n, .int .i64 v, .int .i64 k, .string d, .string q, .int .i64 (p 0), .int .i64 (p 1), .int .i64 (p 2), .int .i64 (p 3), .int .i64 (p 4), .int .i64 (p 5), .int .i64 (p 6), .int .i64 (p 7)] 84) = Z := ⟨_, rfl⟩
  have hb : Below w.heap.size w y := by rw [← hy]; exact (Below.refl _ _).alloc (Nat.le_refl _) _
  have k3 := h3.below hb h3.lt
  have k4 := h4.below hb h4.lt
  have k5 := h5.below hb h5.lt
  have hN := Blk.new w 84 #[.int .i64 n, .int .i64 v, .int .i64 k, .string d, .string q, .int .i64 (p 0), .int .i64 (p 1), .int .i64 (p 2), .int .i64 (p 3), .int .i64 (p 4), .int .i64 (p 5), .int .i64 (p 6), .int .i64 (p 7)]
  rw [hy] at hN
  have c3 : y.cell? ⟨g3, 0, none⟩ = some (.int .i64 n) := by rw [k3.cell]; rfl
  have c4 : y.cell? ⟨w.heap.size, 0, none⟩ = some (.int .i64 n) := by rw [hN.cell]; rfl
  have HRG := hide (blk_range (cs := X.toList) (show Blk y w.heap.size X.toList.toArray _ by rw [← hX]; exact hN))
  have HXS := hide (show X.size = 13 by rw [← hX]; rfl)
  have HX1 := hide (show X.all (·.oneCell') = true by rw [← hX]; simp [Value.oneCell'])
  have HT := hide (blk_there k4 13 hA.symm)
  have H4 := hide (show Blk (y.setCells g4 0 X.toList) g4 X 84 from by
    have := setCells_all k4 X.toList (by rw [Array.length_toList, ← hX, hA]; rfl)
    simpa using this)
  have k3' := k3.only (only_cells g4 0 X.toList (P := fun k => k = g4) rfl) h34
  have k5' := k5.only (only_cells g4 0 X.toList (P := fun k => k = g4) rfl) (fun e => h45 e.symm)
  have H3 := hide k3'
  have H5 := hide k5'
  have HO := hide ((Only.of_below (P := fun k => k = g4 ∨ k = g5) hb).trans (only_cells g4 0 X.toList (P := fun k => k = g4) rfl) (fun _ _ e => .inl e))
  have c5 : (y.setCells g4 0 X.toList).cell? ⟨g5, 0, none⟩ = some (.bool t) := by rw [k5'.cell]; rfl
  have f5 := k5'.frozen 0
  have N34 := hide h34
  have N35 := hide h35
  have N45 := hide h45
  rw [hX] at hy ⊢
  clear h3 h4 h5 k3 k4 k5 hN hb k3' k5' h34 h35 h45 hA hX
  go_enter Tryd.func53, Tryd.ntmps53
  go_wp2_with (first | refine wpList_load_mid rfl 84 (.tmp 4) rfl w.heap.size 0 rfl X.toList _ (unhide HRG) Tryd.underlying84 rfl (by rw [sizeChl, Array.length_toList, unhide HXS]) ?_ | refine wpList_store_mid rfl 84 (.tmp 2) (.tmp 10) rfl g4 0 X rfl (by simp [Act.eval, Act.put]) (by rw [unhide HXS]; exact unhide HT) (by rw [sizeChl, unhide HXS]) (unhide HX1) ?_)
  go_ret
  refine ⟨rfl, (unhide H3).other _ _ (fun e => unhide N35 e.symm), (unhide H4).other _ _ (fun e => unhide N45 e.symm), ?_, (unhide HO).setCell _ _ (fun _ => .inr rfl)⟩
  exact (unhide H5).set 0 (.bool true)
/-- The last one of the first k with a nonce. -/
def tk (m : Int) (l : List Chl) : Nat → Option Chl
  | 0 => none
  | k + 1 => match l[k]? with
    | some x => if x.n = m then some x else tk m l k
    | none => tk m l k
def zC : Array Value := #[.int .i64 0, .int .i64 0, .int .i64 0, .string ⟨#[]⟩, .string ⟨#[]⟩, .int .i64 0, .int .i64 0, .int .i64 0, .int .i64 0, .int .i64 0, .int .i64 0, .int .i64 0, .int .i64 0]
def tkA : Option Chl → Array Value
  | some x => x.cs
  | none => zC
theorem tkA_size (o : Option Chl) : (tkA o).size = 13 := by cases o <;> rfl
theorem tkA_one (o : Option Chl) : (tkA o).all (·.oneCell') = true := by
  cases o with
  | none => simp [tkA, zC, Value.oneCell']
  | some x => exact x.isC.one
theorem vals_at {l : List Chl} {k : Nat} {x : Chl} (h : l[k]? = some x) : (vals l).getD k undef = .agg x.cs := by
  simp [vals, h]
theorem vals_len (l : List Chl) : (vals l).length = l.length := by simp [vals]
theorem vals_isC (l : List Chl) (k : Nat) (h : k < (vals l).length) : ∃ x, IsC ((vals l).getD k undef) x := by
  rw [vals_len] at h
  exact ⟨_, by rw [vals_at (List.getElem?_eq_getElem h)]; exact Chl.isC _⟩
/-- Those with another nonce. -/
def rmv (m : Int) (l : List Chl) : List Chl := l.filter (fun x => decide (x.n ≠ m))
def kpN (m : Int) (l : List Chl) (k : Nat) : Bool := match l[k]? with
  | some x => decide (x.n ≠ m)
  | none => false
theorem sf_rmv (m : Int) (l : List Chl) : ∀ k, k ≤ l.length → sf (kpN m l) (vals l) k = vals ((l.take k).filter (fun x => decide (x.n ≠ m)))
  | 0, _ => rfl
  | k + 1, h => by
    have hk : k < l.length := by omega
    have e : l[k]? = some l[k] := List.getElem?_eq_getElem hk
    rw [sf, sf_rmv m l k (by omega), List.take_add_one, e, vals_at e, List.filter_append]
    unfold kpN
    simp only [e, Option.toList_some]
    by_cases q : l[k].n = m
    · simp [q, vals]
    · simp [q, vals]
theorem sf_all (m : Int) (l : List Chl) : sf (kpN m l) (vals l) (vals l).length = vals (rmv m l) := by
  rw [vals_len, sf_rmv m l _ (Nat.le_refl _), List.take_of_length_le (Nat.le_refl _)]
  rfl
theorem rmv_len (m : Int) (l : List Chl) : (rmv m l).length ≤ l.length := List.length_filter_le _ _
theorem callTake (av : Array Value) (W : World) : (callFunc 53 av).run Tryd.prog W = .ok (.enter 53 av) W := by
  go_simp
set_option maxHeartbeats 400000 in
theorem dsift_any {y : World} {n b o c : Nat} {l : List Chl} (hby : y.cell? ⟨b, o, none⟩ = some (.chan (some c))) (hcy : Ch y c (vals l)) (hl : l.length ≤ 4) (m : Int) (b1 : Blk y n #[.int .i64 m] 3) (b2 : Blk y (n + 1) zC 84) (b3 : Blk y (n + 2) #[.bool false] 4) (hbl : b < n) (hcl : c < n) :
    Calls Tryd.prog 37 #[.pointer (some ⟨b, o, none⟩), .func (.func 53) #[] #[.pointer (some ⟨n, 0, none⟩), .pointer (some ⟨n + 1, 0, none⟩), .pointer (some ⟨n + 2, 0, none⟩)]] y
      fun e w' => e = .returned (.tuple #[]) ∧ (Blk w' n #[.int .i64 m] 3 ∧ Blk w' (n + 1) (tkA (tk m l l.length)) 84 ∧ Blk w' (n + 2) #[.bool (tk m l l.length).isSome] 4) ∧ Ch w' c (vals (rmv m l)) ∧ Only (fun x => x = c ∨ x = n + 1 ∨ x = n + 2) y w' := by
  have h1 := b1.lt
  have h2 := b2.lt
  have h3 := b3.lt
  have hS := sift_any (f := 53) (caps := #[.pointer (some ⟨n, 0, none⟩), .pointer (some ⟨n + 1, 0, none⟩), .pointer (some ⟨n + 2, 0, none⟩)]) (keep := kpN m l)
    (I := fun k W => Blk W n #[.int .i64 m] 3 ∧ Blk W (n + 1) (tkA (tk m l k)) 84 ∧ Blk W (n + 2) #[.bool (tk m l k).isSome] 4) (Own := fun x => x = n + 1 ∨ x = n + 2)
    hby hcy (by rw [vals_len]; exact hl) (vals_isC l) callTake (fun x q => by omega) (by omega) (by omega) ⟨b1, b2, b3⟩
    (fun k w1 w2 hI hO => ⟨hI.1.only hO (by omega), hI.2.1.only hO (by omega), hI.2.2.only hO (by omega)⟩)
    (fun k hk W hI => by
      rw [vals_len] at hk
      have e : l[k]? = some l[k] := List.getElem?_eq_getElem hk
      rw [vals_at e]
      have et : tk m l (k + 1) = if l[k].n = m then some l[k] else tk m l k := by rw [tk]; simp only [e]
      have ek : kpN m l k = decide (l[k].n ≠ m) := by unfold kpN; simp only [e]
      by_cases q : l[k].n = m
      · rw [et, ek, if_pos q, decide_eq_false (fun r => r q)]
        refine (take1_yes l[k] hI.1 hI.2.1 (tkA_size _) hI.2.2 q).mono ?_
        rintro e w' ⟨rfl, h1, h2, h3, h4⟩
        exact ⟨rfl, ⟨h1, h2, h3⟩, h4⟩
      · rw [et, ek, if_neg q, decide_eq_true q]
        refine (take1_no l[k] hI.1 q).mono ?_
        rintro e w' ⟨rfl, hb⟩
        exact ⟨rfl, ⟨hI.1.below hb hI.1.lt, hI.2.1.below hb hI.2.1.lt, hI.2.2.below hb hI.2.2.lt⟩, Only.of_below hb⟩)
  rw [sf_all, vals_len] at hS
  exact hS
set_option maxHeartbeats 400000 in
theorem dtake_any {w : World} {b o c : Nat} {l : List Chl} (hc : w.cell? ⟨b, o, none⟩ = some (.chan (some c))) (h : Ch w c (vals l)) (hl : l.length ≤ 4) (m : Int) :
    Calls Tryd.prog 36 #[.pointer (some ⟨b, o, none⟩), .int .i64 m] w
      fun e w' => e = .returned (.tuple #[.agg (tkA (tk m l l.length)), .bool (tk m l l.length).isSome]) ∧ Ch w' c (vals (rmv m l)) ∧ Only (fun x => x = c) w w' := by
  have hbl : b < w.heap.size := by
    rcases Nat.lt_or_ge b w.heap.size with q | q
    · exact q
    · simp [World.cell?, Array.getElem?_eq_none q] at hc
  have hcl := h.lt
  obtain ⟨n, hn⟩ : ∃ n, w.heap.size = n := ⟨_, rfl⟩
  obtain ⟨y, hy⟩ : ∃ Z, ((w.alloc (.cells #[.int .i64 m] 3)).alloc (.cells zC 84)).alloc (.cells #[.bool false] 4) = Z := ⟨_, rfl⟩
  have hall : Blk y n #[.int .i64 m] 3 ∧ Blk y (n + 1) zC 84 ∧ Blk y (n + 2) #[.bool false] 4 ∧ Below n w y ∧ y.heap.size = n + 3 := by
    rw [← hy, ← hn]
    have b1 := ((Blk.new w 3 #[.int .i64 m]).alloc (.cells zC 84)).alloc (.cells #[.bool false] 4)
    have b2 := (Blk.new (w.alloc (.cells #[.int .i64 m] 3)) 84 zC).alloc (.cells #[.bool false] 4)
    have b3 := Blk.new ((w.alloc (.cells #[.int .i64 m] 3)).alloc (.cells zC 84)) 4 #[.bool false]
    simp only [World.size_alloc] at b2 b3
    refine ⟨b1, b2, b3, ?_, by simp only [World.size_alloc]⟩
    exact (((Below.refl _ _).alloc (Nat.le_refl _) _).alloc (by simp only [World.size_alloc]; omega) _).alloc (by simp only [World.size_alloc]; omega) _
  obtain ⟨b1, b2, b3, lo, sz⟩ := hall
  rw [hn] at hbl hcl
  have hcy := h.below lo hcl
  have hby := only_cell (P := fun _ => False) (Only.of_below (by rw [hn]; exact lo)) (fun q => q) hc
  have HS := hide (dsift_any hby hcy hl m b1 b2 b3 hbl hcl)
  obtain ⟨T, hT⟩ : ∃ T, tk m l l.length = T := ⟨_, rfl⟩
  rw [hT] at HS ⊢
  have HLO := hide lo
  have HSZ := hide sz
  have HCL := hide hcl
  clear h hc b1 b2 b3 lo sz hcy hby hl hbl hcl hT
  simp only [zC] at hy
  go_enter Tryd.func36, Tryd.ntmps36
  go_wp2_with (go_at_call 37; refine (unhide HS).mono ?_; rintro e z ⟨rfl, hI, hC, hO⟩; have HI := hide hI; have HCz := hide hC; have HOz := hide hO; clear hI hC hO)
  have HON := hide (show Only (fun x => x = c) w z from (Only.of_below (P := fun x => x = c) (show Below w.heap.size w y by rw [hn]; exact unhide HLO)).trans (unhide HOz) (fun k hk q => by
    rw [hn] at hk
    rcases q with q | q | q
    · exact q
    · omega
    · omega))
  have HSS := hide (show Blk z.drew (n + 1) (tkA T) 84 ∧ Blk z.drew (n + 1 + 1) #[.bool T.isSome] 4 ∧ Ch z.drew c (vals (rmv m l)) ∧ Only (fun x => x = c) w z.drew from ⟨(unhide HI).2.1, (unhide HI).2.2, (unhide HCz).drew, (unhide HON).drew⟩)
  have HTS := hide (tkA_size T)
  have HT1 := hide (tkA_one T)
  obtain ⟨X, hX⟩ : ∃ X, tkA T = X := ⟨_, rfl⟩
  obtain ⟨B, hB⟩ : ∃ B, T.isSome = B := ⟨_, rfl⟩
  rw [hX] at HSS HTS HT1
  rw [hB] at HSS
  have HXX := hide hX
  have HBB := hide hB
  clear hX hB HI HCz HOz HON HS
  refine wp_region_held_drew (S := fun W => Blk W (n + 1) X 84 ∧ Blk W (n + 1 + 1) #[.bool B] 4 ∧ Ch W c (vals (rmv m l)) ∧ Only (fun x => x = c) w W) (by kernel_rfl) (unhide HSS) ?_
  intro hS
  refine wpAnyH_takeD 0 (some 9) (.agg X.toList.toArray) rfl rfl (by kernel_rfl) (by kernel_rfl) (by kernel_rfl) (fun _ _ _ h => h) (yieldsIf_load_mid rfl 84 (.tmp 4) rfl (n + 1) 0 rfl X.toList _ (fun W hW => blk_range (T := 84) (by simpa using hW.1)) Tryd.underlying84 rfl (by rw [sizeChl, Array.length_toList, unhide HTS])) hS ?_
  simp only [Act.put, List.setIfInBounds_toArray, List.set_cons_zero, List.set_cons_succ]
  refine wpAnyH_takeD 1 (some 10) (.bool B) rfl rfl (by kernel_rfl) (by kernel_rfl) (by kernel_rfl) (fun _ _ _ h => h) (Or.inl ⟨by rfl, fun w hSw => by
    have c5 : w.cell? ⟨n + 1 + 1, 0, none⟩ = some (.bool B) := by rw [hSw.2.1.cell]; rfl
    clear hSw
    go_simp⟩) hS ?_
  simp only [Act.put, List.setIfInBounds_toArray, List.set_cons_zero, List.set_cons_succ]
  refine wpAnyH_ready (rs := [2]) (by kernel_rfl) (by simp) ?_
  refine AllReadyH.cons rfl (fun K hK => ?_) AllReadyH.nil
  simp only [List.getElem_toArray, List.getElem_cons_succ, List.getElem_cons_zero]
  rw [if_pos (by rfl)]
  refine wp_store_mid 84 (.tmp 4) (.tmp 9) rfl (n + 1) 0 X rfl (by simp [Act.eval]) (by rw [unhide HTS]; exact blk_there hS.1 13 (unhide HTS).symm) (by rw [sizeChl, unhide HTS]) (unhide HT1) ?_
  have hS2 : Blk (z.drew.setCells (n + 1) 0 X.toList) (n + 1) X 84 ∧ Blk (z.drew.setCells (n + 1) 0 X.toList) (n + 1 + 1) #[.bool B] 4 ∧ Ch (z.drew.setCells (n + 1) 0 X.toList) c (vals (rmv m l)) ∧ Only (fun x => x = c) w (z.drew.setCells (n + 1) 0 X.toList) := by
    have ho := only_cells (w := z.drew) (n + 1) 0 X.toList (P := fun x => x = n + 1) rfl
    refine ⟨?_, hS.2.1.only ho (by omega), hS.2.2.1.only ho (by have := unhide HCL; omega), hS.2.2.2.trans ho (fun k hk q => ?_)⟩
    · have := setCells_all hS.1 X.toList (by rw [Array.length_toList])
      simpa using this
    · rw [hn] at hk
      omega
  refine hK.out _ _ hS2 (fun hS => ?_)
  clear hK K hS2
  generalize z.drew.setCells (n + 1) 0 X.toList = z2 at *
  try simp only [Act.put]
  refine wpAnyH_ready (rs := [3]) (by kernel_rfl) (by simp) ?_
  refine AllReadyH.cons rfl (fun K hK => ?_) AllReadyH.nil
  simp only [List.getElem_toArray, List.getElem_cons_succ, List.getElem_cons_zero]
  have c5 : z2.cell? ⟨n + 1 + 1, 0, none⟩ = some (.bool B) := by rw [hS.2.1.cell]; rfl
  have f5 := hS.2.1.frozen 0
  have HS3 := hide hS
  clear hS
  go_simp
  have hS := unhide HS3
  have hS2 : Blk (z2.setCell ⟨n + 1 + 1, 0, none⟩ (.bool B)) (n + 1) X 84 ∧ Blk (z2.setCell ⟨n + 1 + 1, 0, none⟩ (.bool B)) (n + 1 + 1) #[.bool B] 4 ∧ Ch (z2.setCell ⟨n + 1 + 1, 0, none⟩ (.bool B)) c (vals (rmv m l)) ∧ Only (fun x => x = c) w (z2.setCell ⟨n + 1 + 1, 0, none⟩ (.bool B)) := by
    have ho : Only (fun x => x = n + 1 + 1) z2 (z2.setCell ⟨n + 1 + 1, 0, none⟩ (.bool B)) := (Only.refl _ _).setCell _ _ (fun _ => rfl)
    refine ⟨hS.1.only ho (by omega), ?_, hS.2.2.1.only ho (by have := unhide HCL; omega), hS.2.2.2.trans ho (fun k hk q => ?_)⟩
    · exact hS.2.1.set 0 (.bool B)
    · rw [hn] at hk
      omega
  clear hS
  refine hK.out _ _ hS2 (fun hS => ?_)
  clear hK K hS2 c5 f5 HS3
  generalize z2.setCell ⟨n + 1 + 1, 0, none⟩ (.bool B) = z3 at *
  refine wpAnyH_done (by kernel_rfl) ?_ _
  have HS4 := hide hS
  clear hS
  go_wp2
  have hS := unhide HS4
  have e5 : (loadVar 4 ⟨n + 1 + 1, 0, none⟩).run Tryd.prog z3 = .ok (.bool B) z3 := by
    have c5 : z3.cell? ⟨n + 1 + 1, 0, none⟩ = some (.bool B) := by rw [hS.2.1.cell]; rfl
    go_simp
  refine bodyPost_ret (results_cc rfl _ _ _ ⟨n + 1, 0, none⟩ ⟨n + 1 + 1, 0, none⟩ rfl rfl _ _ (iload_blk _ _ hS.1 Tryd.underlying84 rfl (by rw [sizeChl, unhide HTS])) e5) rfl ?_
  exact ⟨by rw [unhide HXX, unhide HBB], hS.2.2.1, hS.2.2.2⟩
end Go.Proofs.YtabgcgdpeikieaaDoor
