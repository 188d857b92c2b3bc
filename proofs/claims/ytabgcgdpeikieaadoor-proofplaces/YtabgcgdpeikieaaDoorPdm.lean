import Derived.Test.YtabgcgdpeikieaaDoorPdl
import Derived.Test.YtabgcgdpeikieaaDoorPlc
namespace Go.Proofs.YtabgcgdpeikieaaDoor
open Go.RowKit Go.Conc
set_option maxRecDepth 100000
theorem info3 : (Tryd.prog.info? 3).map (fun i => (i.zero, i.size, i.bytes)) = some (some (.int .i64 0), 1, 8) := by kernel_rfl
theorem grown_only {w w1 : World} {r : Option Nat} (h : w.grownBy w1 r) : Only (fun k => r = some k) w w1 := (Only.refl _ w).grown h (fun _ _ e => e)
theorem own_only {w w' : World} {P : Nat → Prop} {base : Nat} {e : TypeId} {s n : Nat} {v : Value} {xs : List Value} (h : w.ownsRow base e s v n xs) (ho : Only P w w') (hp : ∀ k, v.ownBlock = some k → ¬ P k) : w'.ownsRow base e s v n xs := by
  refine ⟨h.1, ?_⟩
  rcases h.2 with h2 | ⟨g, cap, cur, rfl, hb, hg, r⟩
  · exact .inl h2
  · have hB : Blk w g cur e := hg
    exact .inr ⟨g, cap, cur, rfl, hb, hB.only ho (hp g rfl), r⟩
theorem own_blk {w : World} {base : Nat} {e : TypeId} {s n : Nat} {v : Value} {xs : List Value} (h : w.ownsRow base e s v n xs) {k : Nat} (hk : v.ownBlock = some k) : ∃ cur, Blk w k cur e := by
  rcases h.2 with ⟨rfl, _⟩ | ⟨g, cap, cur, rfl, hb, hg, r⟩
  · cases hk
  · obtain rfl : g = k := by simpa [Value.ownBlock] using hk
    exact ⟨cur, hg⟩
theorem blk_ty {w : World} {b : Nat} {c c' : Array Value} {T T' : TypeId} (h : Blk w b c T) (h' : Blk w b c' T') : T = T' := by
  have e : (some (Obj.cells c T (0, 0))) = some (Obj.cells c' T' (0, 0)) := (show w.heap[b]? = _ from h).symm.trans h'
  injection e with e
  injection e with _ e
theorem own_ils {w : World} {base : Nat} {v : Value} {l : List Int} (h : w.ownsRow base 3 1 v l.length (l.map (Value.int .i64))) : ∃ ao cap, v = .slice ao l.length cap ∧ Ils w ao l ∧ ∀ g o p, ao = some ⟨g, o, p⟩ → base ≤ g := by
  rcases h.2 with ⟨rfl, h0⟩ | ⟨g, cap, cur, rfl, hb, hg, hn, hc, hs, hx⟩
  · have e0 : l.length = 0 := h0
    refine ⟨none, 0, by rw [e0], fun j hj => by omega, fun g o p e => by cases e⟩
  · refine ⟨some ⟨g, 0, none⟩, cap, rfl, fun j hj => ?_, fun g' o p e => by cases e; exact hb⟩
    have hB : Blk w g cur 3 := hg
    refine ⟨g, 0, rfl, hB.lt, ?_⟩
    have h9 := (own_at h rfl j hj).1
    rw [Nat.zero_add, h9]
    simp [hj]
set_option maxHeartbeats 1000000 in
theorem nonce1_any {w : World} {N gl m : Nat} {v0 : Value} {xs : List Value} (x : Chl) (hB : Blk w gl #[v0] 26) (hr : w.ownsRow N 3 1 v0 m xs) (hm : m ≤ 4) (hN : N ≤ w.heap.size) :
    Calls Tryd.prog 52 #[.agg x.cs, .pointer (some ⟨gl, 0, none⟩)] w fun e w' => e = .returned (.bool true) ∧ (∃ v', Blk w' gl #[v'] 26 ∧ w'.ownsRow N 3 1 v' (m + 1) (xs ++ [.int .i64 x.n])) ∧ Only (fun q => q = gl ∨ v0.ownBlock = some q) w w' := by
  obtain ⟨i0, hi, hz0, hz1, hz2⟩ := info_parts info3
  have HI := hide (And.intro hi (And.intro hz0 (And.intro hz1 hz2)))
  obtain ⟨n, v, k, d, q, p⟩ := x
  simp only [Chl.cs]
  obtain ⟨W, hW⟩ : ∃ W, w.heap.size = W := ⟨_, rfl⟩
  obtain ⟨y, hy⟩ : ∃ Z, w.alloc (.cells #[.int .i64 n, .int .i64 v, .int .i64 k, .string d, .string q, .int .i64 (p 0), .int .i64 (p 1), .int .i64 (p 2), .int .i64 (p 3), .int .i64 (p 4), .int .i64 (p 5), .int .i64 (p 6), .int .i64 (p 7)] 84) = Z := ⟨_, rfl⟩
  have hlo : Below w.heap.size w y := by rw [← hy]; exact (Below.refl _ _).alloc (Nat.le_refl _) _
  have hN := Blk.new w 84 #[.int .i64 n, .int .i64 v, .int .i64 k, .string d, .string q, .int .i64 (p 0), .int .i64 (p 1), .int .i64 (p 2), .int .i64 (p 3), .int .i64 (p 4), .int .i64 (p 5), .int .i64 (p 6), .int .i64 (p 7)]
  rw [hy, hW] at hN
  have hB2 := hB.below hlo hB.lt
  have c0 : y.cell? ⟨gl, 0, none⟩ = some v0 := by rw [hB2.cell]; rfl
  have c1 : y.cell? ⟨W, 0, none⟩ = some (.int .i64 n) := by rw [hN.cell]; rfl
  have hr2 : y.ownsRow N 3 1 v0 m xs := by rw [← hy]; exact hr.alloc _
  have hys : y.heap.size = W + 1 := by rw [← hy, World.size_alloc, hW]
  have HR := hide (hr2.alloc (.cells #[.int .i64 n] 3))
  have HO := hide ((Only.of_below (P := fun q => q = gl ∨ v0.ownBlock = some q) hlo).alloc (.cells #[.int .i64 n] 3))
  have HB := hide (hB2.alloc (.cells #[.int .i64 n] 3))
  have hne : ∀ q, v0.ownBlock = some q → q ≠ gl := fun q hq e => by
    subst e
    obtain ⟨cur, hc⟩ := own_blk hr hq
    exact absurd (blk_ty hc hB) (by decide)
  have HNE := hide hne
  have HLE := hide (show N ≤ (y.alloc (.cells #[.int .i64 n] 3)).heap.size from by rw [World.size_alloc]; omega)
  have HNW := hide (show N ≤ w.heap.size from by omega)
  clear hys
  clear hi hz0 hz1 hz2 hlo hN hB2 hr2 hB hr hne
  go_enter Tryd.func52, Tryd.ntmps52
  go_wp2_with (refine wpList_append_lies _ rfl (.tmp 4) (.tmp 7) 26 rfl N 3 i0 (.int .i64 0) 1 8 Tryd.underlying26 (unhide HI).1 (unhide HI).2.1 (unhide HI).2.2.1 (unhide HI).2.2.2 rfl (by decide) _ m xs rfl (unhide HR) ⟨y.heap.size, 0, none⟩ 1 1 [.int .i64 n] rfl rfl (fun q u hu => news_one y 3 _ q u hu) (by simp [Value.oneCell']) (by omega) (by unfold maxLen; omega) (by omega) (unhide HLE) _ rfl ?_)
  intro g1 cap1 y2 ho2 hg2 hor hlt
  have HO2 := hide ho2
  have hOn := grown_only hg2
  have hBy := (unhide HB).only hOn (fun e => unhide HNE gl e rfl)
  have d0 : y2.cell? ⟨gl, 0, none⟩ = some v0 := by rw [hBy.cell]; rfl
  have f0 := hBy.frozen 0
  have HBy := hide hBy
  have HOn := hide ((unhide HO).trans hOn (fun j _ e => .inr e))
  clear ho2 hg2 hor hlt hOn hBy
  go_wp2
  go_ret
  have ho3 : Only (fun q => q = gl) y2 (y2.setCell ⟨gl, 0, none⟩ (.slice (some ⟨g1, 0, none⟩) (m + 1) cap1)) := (Only.refl _ _).setCell _ _ (fun _ => rfl)
  refine ⟨rfl, ⟨_, (unhide HBy).set 0 (.slice (some ⟨g1, 0, none⟩) (m + 1) cap1), ?_⟩, (unhide HOn).trans ho3 (fun j _ e => .inl e)⟩
  exact own_only (unhide HO2) ho3 (fun q hq e => by
    subst e
    obtain ⟨cur, hc⟩ := own_blk (unhide HO2) hq
    exact absurd (blk_ty hc (unhide HBy)) (by decide))
theorem sf_true (l : List Value) : ∀ k, k ≤ l.length → sf (fun _ => true) l k = l.take k
  | 0, _ => by simp [sf]
  | k + 1, h => by
    have hk : k < l.length := by omega
    rw [sf, if_pos rfl, sf_true l k (by omega), List.take_add_one, List.getElem?_eq_getElem hk]
    simp [hk]
theorem callNonce (av : Array Value) (W : World) : (callFunc 52 av).run Tryd.prog W = .ok (.enter 52 av) W := by
  go_simp
def ncs (l : List Chl) : List Int := l.map (fun x => x.n)
theorem ncs_len (l : List Chl) : (ncs l).length = l.length := by simp [ncs]
set_option maxHeartbeats 400000 in
theorem nsift_any {y : World} {b o c gl : Nat} {l : List Chl} (hby : y.cell? ⟨b, o, none⟩ = some (.chan (some c))) (hcy : Ch y c (vals l)) (hl : l.length ≤ 4) (hB : Blk y gl #[.slice none 0 0] 26) (hbg : b ≠ gl) :
    Calls Tryd.prog 37 #[.pointer (some ⟨b, o, none⟩), .func (.func 52) #[] #[.pointer (some ⟨gl, 0, none⟩)]] y
      fun e w' => e = .returned (.tuple #[]) ∧ (∃ v, Blk w' gl #[v] 26 ∧ w'.ownsRow y.heap.size 3 1 v (ncs l).length ((ncs l).map (Value.int .i64))) ∧ Ch w' c (vals l) ∧ Only (fun x => x = c ∨ x = gl) y w' := by
  have hcl := hcy.lt
  have hgl := hB.lt
  have hcg : c ≠ gl := hcy.ne_blk hB
  have hS := sift_gen (f := 52) (caps := #[.pointer (some ⟨gl, 0, none⟩)]) (keep := fun _ => true)
    (I := fun k W => y.heap.size ≤ W.heap.size ∧ ∃ v, Blk W gl #[v] 26 ∧ W.ownsRow y.heap.size 3 1 v ((ncs l).take k).length (((ncs l).take k).map (Value.int .i64)))
    (Own := fun W x => x = gl ∨ ∃ v, Blk W gl #[v] 26 ∧ v.ownBlock = some x) (OwnT := fun x => x = gl)
    hby hcy (by rw [vals_len]; exact hl) (vals_isC l) callNonce
    (fun k W g x hI hBg hge q => by
      obtain ⟨_, v, hv, hr⟩ := hI
      rcases q with q | ⟨v', hv', q⟩
      · omega
      · have e : v' = v := by
          have h9 := hv'.cell 0
          rw [hv.cell 0] at h9
          simpa using h9.symm
        subst e
        obtain ⟨cur, hc⟩ := own_blk hr q
        exact absurd (blk_ty hc hBg) (by decide))
    (fun k W hI q => by
      obtain ⟨_, v, hv, hr⟩ := hI
      rcases q with q | ⟨v', hv', q⟩
      · exact hcg q
      · have e : v' = v := by
          have h9 := hv'.cell 0
          rw [hv.cell 0] at h9
          simpa using h9.symm
        subst e
        have := (hr.lt c q).1
        omega)
    hbg
    (fun k W x hI hx q => by
      obtain ⟨_, v, hv, hr⟩ := hI
      rcases q with q | ⟨v', hv', q⟩
      · exact q
      · have e : v' = v := by
          have h9 := hv'.cell 0
          rw [hv.cell 0] at h9
          simpa using h9.symm
        subst e
        have := (hr.lt x q).1
        omega)
    ⟨Nat.le_refl _, _, hB, by simpa using World.ownsRow_nil y y.heap.size 3 1⟩
    (fun k w1 w2 hI hO => by
      obtain ⟨hsz, v, hv, hr⟩ := hI
      refine ⟨Nat.le_trans hsz hO.size, v, hv.only hO (fun e => hcg e.symm), own_only hr hO (fun j hj e => ?_)⟩
      have := (hr.lt j hj).1
      omega)
    (fun k hk W hI => by
      obtain ⟨hsz, v, hv, hr⟩ := hI
      rw [vals_len] at hk
      have e : l[k]? = some l[k] := List.getElem?_eq_getElem hk
      rw [vals_at e]
      have hlen : ((ncs l).take k).length = k := by rw [List.length_take, ncs_len]; omega
      have htk : (ncs l).take (k + 1) = (ncs l).take k ++ [l[k].n] := by
        rw [List.take_add_one]
        simp [ncs, e]
      refine (nonce1_any l[k] hv hr (by omega) hsz).mono ?_
      rintro e w' ⟨rfl, ⟨v', hv', hr'⟩, hO⟩
      refine ⟨rfl, ⟨Nat.le_trans hsz hO.size, v', hv', ?_⟩, hO.mono (fun j _ q => q.elim .inl (fun q => .inr ⟨v, hv, q⟩))⟩
      rw [htk, List.length_append, List.length_singleton, List.map_append]
      exact hr')
  refine hS.mono ?_
  rintro e w' ⟨rfl, ⟨_, v, hv, hr⟩, hC, hO⟩
  rw [vals_len] at hr hC
  rw [sf_true _ _ (by rw [vals_len]; exact Nat.le_refl _), List.take_of_length_le (by rw [vals_len]; exact Nat.le_refl _)] at hC
  rw [List.take_of_length_le (by rw [ncs_len]; exact Nat.le_refl _)] at hr
  exact ⟨rfl, ⟨v, hv, hr⟩, hC, hO⟩
set_option maxHeartbeats 400000 in
theorem nonces_any {w : World} {b o c : Nat} {l : List Chl} (hc : w.cell? ⟨b, o, none⟩ = some (.chan (some c))) (h : Ch w c (vals l)) (hl : l.length ≤ 4) :
    Calls Tryd.prog 35 #[.pointer (some ⟨b, o, none⟩)] w
      fun e w' => ∃ ao cap, e = .returned (.slice ao (ncs l).length cap) ∧ Ils w' ao (ncs l) ∧ (∀ g o p, ao = some ⟨g, o, p⟩ → w.heap.size ≤ g) ∧ Ch w' c (vals l) ∧ Only (fun x => x = c) w w' := by
  have hbl : b < w.heap.size := by
    rcases Nat.lt_or_ge b w.heap.size with q | q
    · exact q
    · simp [World.cell?, Array.getElem?_eq_none q] at hc
  have hcl := h.lt
  obtain ⟨n, hn⟩ : ∃ n, w.heap.size = n := ⟨_, rfl⟩
  obtain ⟨y, hy⟩ : ∃ Z, w.alloc (.cells #[.slice none 0 0] 26) = Z := ⟨_, rfl⟩
  have lo : Below w.heap.size w y := by rw [← hy]; exact (Below.refl _ _).alloc (Nat.le_refl _) _
  have hB : Blk y n #[.slice none 0 0] 26 := by rw [← hy, ← hn]; exact Blk.new _ _ _
  have hcy := h.below lo hcl
  have hby := only_cell (P := fun _ => False) (Only.of_below lo) (fun q => q) hc
  have HS := hide (nsift_any hby hcy hl hB (by omega))
  have HLO := hide lo
  have HSZ := hide (show n ≤ y.heap.size from by rw [← hn]; exact lo.size)
  have HCN := hide (show c < n from by omega)
  clear h hc lo hB hcy hby hl hbl hcl
  go_enter Tryd.func35, Tryd.ntmps35
  go_wp2_with (go_at_call 37; refine (unhide HS).mono ?_; rintro e z ⟨rfl, ⟨v, hv, hr⟩, hC, hO⟩; obtain ⟨ao, cap, rfl, hI, hfr⟩ := own_ils hr; have c0 : z.cell? ⟨n, 0, none⟩ = some (.slice ao (ncs l).length cap) := (by rw [hv.cell]; rfl); have HI := hide hI; have HFR := hide hfr; have HCz := hide hC; have HOz := hide hO; clear hI hfr hC hO hv hr)
  go_ret
  refine ⟨ao, cap, rfl, unhide HI, fun g o p e => ?_, unhide HCz, (Only.of_below (P := fun x => x = c) (unhide HLO)).trans (unhide HOz) (fun k hk q => ?_)⟩
  · have h1 := unhide HFR g o p e
    have h2 := unhide HSZ
    omega
  · rcases q with q | q
    · exact q
    · omega
theorem ups_self {α : Type} (f : Nat → α) (k : Nat) : ups f k (f k) = f := by
  funext j
  by_cases e : j = k
  · subst e; exact ups_same _ _ _
  · exact ups_ne _ _ _ _ e
set_option maxHeartbeats 400000 in
theorem pending_ok {w : World} {b : Nat} {c : Nat → Nat} {n : Nat → Int} {L : Nat → List Chl} (h : Bk w b c n L) (i : Nat) (hi : i < 8) (t : Int) (ht : t = (i : Int) + 1) :
    Calls Tryd.prog 15 #[.pointer (some ⟨b, 0, none⟩), .int .i64 t] w
      fun e w' => ∃ ao cap, e = .returned (.tuple #[.slice ao (ncs (L i)).length cap, .int .i64 0]) ∧ Ils w' ao (ncs (L i)) ∧ (∀ g o p, ao = some ⟨g, o, p⟩ → w.heap.size ≤ g) ∧ Bk w' b c n L ∧ Only (OnB b c) w w' := by
  subst ht
  have HD := hide (desk_any w b ((i : Int) + 1) (by omega) (by omega))
  have e2 : (((i : Int) + 1).toNat - 1) * 2 = i * 2 := by omega
  rw [e2] at HD
  have HN := hide (nonces_any (h.chan i hi) (h.ch i hi) (h.len i hi))
  have HH := hide h
  have HI := hide hi
  clear h e2 hi
  go_enter Tryd.func15, Tryd.ntmps15
  go_wp2_with (go_at_call 31; refine (unhide HD).mono ?_; rintro e z ⟨rfl, rfl⟩)
  refine (unhide HN).mono ?_
  rintro e z1 ⟨ao, cap, rfl, hI1, hfr, hC1, hO1⟩
  have HX := hide (And.intro hI1 (And.intro hfr (And.intro hC1 hO1)))
  clear hI1 hfr hC1 hO1 HN HD
  go_wp2
  go_ret2
  obtain ⟨hI1, hfr, hC1, hO1⟩ := unhide HX
  have h := unhide HH
  have hB := h.put i (unhide HI) hC1 (h.len i (unhide HI)) hO1
  rw [ups_self] at hB
  exact ⟨ao, cap, rfl, hI1, hfr, hB, hO1.mono (fun k _ e => .inr ⟨i, unhide HI, e⟩)⟩
end Go.Proofs.YtabgcgdpeikieaaDoor
