import Derived.Test.YthnlggbnielgdaaDoorPlh
namespace Go.Proofs.YthnlggbnielgdaaDoor
open Go.RowKit Go.Conc
set_option maxRecDepth 100000
theorem offer_none (w : World) (b : Nat) (t : Int) (h : t < 1 ∨ 8 < t) (vol blk : Int) (dg wr dr : ByteArray) :
    Calls Tryd.prog 12 #[.pointer (some ⟨b, 0, none⟩), .int .i64 t, .agg #[.int .i64 vol, .int .i64 blk, .string dg, .string wr], .string dr] w fun e w' => e = .returned (.tuple #[.int .i64 0, .slice none 0 0, .int .i64 133]) ∧ Below w.heap.size w w' := by
  have HD := hide (fun z : World => desk_none z b t h)
  have HL := hide (show Below w.heap.size w (w.alloc (.cells #[.int .i64 vol, .int .i64 blk, .string dg, .string wr] 31)) from (Below.refl _ _).alloc (Nat.le_refl _) _)
  clear h
  go_enter Tryd.func12, Tryd.ntmps12
  go_wp2_with fail
  refine (unhide HD _).mono ?_
  rintro e z ⟨rfl, rfl⟩
  go_wp2
  go_ret3
  exact ⟨rfl, unhide HL⟩
theorem take_none13 (w : World) (b : Nat) (t m : Int) (h : t < 1 ∨ 8 < t) :
    Calls Tryd.prog 16 #[.pointer (some ⟨b, 0, none⟩), .int .i64 t, .int .i64 m] w fun e w' => e = .returned (.tuple #[.agg #[.int .i64 0, .int .i64 0, .string ⟨#[]⟩, .string ⟨#[]⟩], .slice none 0 0, .int .i64 133]) ∧ Below w.heap.size w w' := by
  have HD := hide (fun z : World => desk_none z b t h)
  obtain ⟨N, hn⟩ : ∃ N, w.heap.size = N := ⟨_, rfl⟩
  obtain ⟨y, hy⟩ : ∃ Z, w.alloc (.cells #[.int .i64 0, .int .i64 0, .string ⟨#[]⟩, .string ⟨#[]⟩] 31) = Z := ⟨_, rfl⟩
  have HL := hide (show Below N w y from by rw [← hy, ← hn]; exact (Below.refl _ _).alloc (Nat.le_refl _) _)
  have HB := hide (show Blk y N #[.int .i64 0, .int .i64 0, .string ⟨#[]⟩, .string ⟨#[]⟩] 31 from by rw [← hy, ← hn]; exact Blk.new _ _ _)
  clear h
  rw [hn]
  go_enter Tryd.func16, Tryd.ntmps16
  go_wp2_with fail
  refine (unhide HD _).mono ?_
  rintro e z ⟨rfl, rfl⟩
  go_wp2_with (refine wpList_store_mid rfl 31 (.tmp 6) (.tmp 21) rfl N 0 #[.int .i64 0, .int .i64 0, .string ⟨#[]⟩, .string ⟨#[]⟩] rfl rfl (blk_there (unhide HB) 4 rfl) (by rw [sizeOff]; rfl) (by simp [Value.oneCell']) ?_)
  have hW := setCells_all (unhide HB) (#[.int .i64 0, .int .i64 0, .string ⟨#[]⟩, .string ⟨#[]⟩] : Array Value).toList rfl
  refine bodyPost_ret (results_c3 rfl _ _ _ ⟨N, 0, none⟩ rfl _ (iload_blk _ _ hW Tryd.underlying31 rfl (by rw [sizeOff]; rfl))) rfl ?_
  exact ⟨rfl, below_setCells (Nat.le_refl _) _ _ (unhide HL)⟩
theorem forget_none (w : World) (b : Nat) (t : Int) (h : t < 1 ∨ 8 < t) :
    Calls Tryd.prog 18 #[.pointer (some ⟨b, 0, none⟩), .int .i64 t] w fun e w' => e = .returned (.int .i64 133) ∧ w' = w := by
  have HD := hide (fun z : World => desk_none z b t h)
  clear h
  go_enter Tryd.func18, Tryd.ntmps18
  go_wp2_with fail
  refine (unhide HD _).mono ?_
  rintro e z ⟨rfl, rfl⟩
  go_wp2
  go_ret
  exact ⟨rfl, rfl⟩
theorem callForget (av : Array Value) (W : World) : (callFunc 38 av).run Tryd.prog W = .ok (.enter 38 av) W := by
  go_simp
theorem forget1 (w : World) (x : Chl) : Calls Tryd.prog 38 #[.agg x.cs] w fun e w' => e = .returned (.bool false) ∧ Below w.heap.size w w' := by
  obtain ⟨n, v, k, d, q, p⟩ := x
  simp only [Chl.cs]
  go_enter Tryd.func38, Tryd.ntmps38
  go_wp2
  go_ret
  exact ⟨rfl, (Below.refl _ _).alloc (Nat.le_refl _) _⟩
theorem sf_false (l : List Value) : ∀ k, sf (fun _ => false) l k = []
  | 0 => rfl
  | k + 1 => by rw [sf, if_neg (by simp), sf_false l k]
theorem forget_ok {w : World} {b : Nat} {c : Nat → Nat} {n : Nat → Int} {L : Nat → List Chl} (h : Bk w b c n L) (i : Nat) (hi : i < 8) (t : Int) (ht : t = (i : Int) + 1) :
    Calls Tryd.prog 18 #[.pointer (some ⟨b, 0, none⟩), .int .i64 t] w fun e w' => e = .returned (.int .i64 0) ∧ Bk w' b c n (ups L i []) ∧ Only (OnB b c) w w' := by
  subst ht
  have HD := hide (desk_any w b ((i : Int) + 1) (by omega) (by omega))
  have e2 : (((i : Int) + 1).toNat - 1) * 2 = i * 2 := by omega
  rw [e2] at HD
  have hS := sift_any (f := 38) (caps := #[]) (keep := fun _ => false) (I := fun _ _ => True) (Own := fun _ => False) (h.chan i hi) (h.ch i hi) (by rw [vals_len]; exact h.len i hi) (vals_isC (L i)) callForget (fun _ q => q.elim) (fun q => q) (fun q => q) trivial (fun _ _ _ _ _ => trivial) (fun k hk W _ => by
    rw [vals_len] at hk
    have e : (L i)[k]? = some (L i)[k] := List.getElem?_eq_getElem hk
    rw [vals_at e]
    refine (forget1 W (L i)[k]).mono ?_
    rintro e w' ⟨rfl, hb⟩
    exact ⟨rfl, trivial, Only.of_below hb⟩)
  rw [sf_false] at hS
  have HS := hide hS
  have HH := hide h
  have HI := hide hi
  clear h e2 hi hS
  go_enter Tryd.func18, Tryd.ntmps18
  go_wp2_with (go_at_call 31; refine (unhide HD).mono ?_; rintro e z ⟨rfl, rfl⟩)
  refine (unhide HS).mono ?_
  rintro e z1 ⟨rfl, _, hC, hO⟩
  have HX := hide (And.intro hC hO)
  clear hC hO HS HD
  go_wp2
  go_ret
  obtain ⟨hC, hO⟩ := unhide HX
  have hO2 : Only (fun x => x = c i) _ z1 := hO.mono (fun k _ q => q.elim id (fun q => q.elim))
  exact ⟨rfl, (unhide HH).put i (unhide HI) (l := []) hC (by simp) hO2, hO2.mono (fun k _ e => .inr ⟨i, unhide HI, e⟩)⟩
/-- What one step for a tenant leaves. -/
structure Stp (b : Nat) (c : Nat → Nat) (n : Nat → Int) (L : Nat → List Chl) (t : Int) (w w' : World) (n' : Nat → Int) (L' : Nat → List Chl) : Prop where
  bk : Bk w' b c n' L'
  nn : ∀ i, 0 ≤ n' i
  same : ∀ i : Nat, (i : Int) + 1 ≠ t → n' i = n i ∧ L' i = L i
  only : Only (OnB b c) w w'
theorem tn_cases (t : Int) : (t < 1 ∨ 8 < t) ∨ ∃ i : Nat, i < 8 ∧ t = (i : Int) + 1 := by
  by_cases h : t < 1 ∨ 8 < t
  · exact .inl h
  · exact .inr ⟨(t - 1).toNat, by omega, by omega⟩
theorem offer_step {w : World} {b : Nat} {c : Nat → Nat} {n : Nat → Int} {L : Nat → List Chl} (h : Bk w b c n L) (hn : ∀ i, 0 ≤ n i) (t : Int) (vol blk : Int) (dg wr dr : ByteArray) (hr : dr.size = 16) (hg : dg.size = 32) (hK : KTab w) :
    Calls Tryd.prog 12 #[.pointer (some ⟨b, 0, none⟩), .int .i64 t, .agg #[.int .i64 vol, .int .i64 blk, .string dg, .string wr], .string dr] w fun e w' => ∃ v n' L', e = .returned v ∧ Stp b c n L t w w' n' L' := by
  rcases tn_cases t with ht | ⟨i, hi, ht⟩
  · refine (offer_none w b t ht vol blk dg wr dr).mono ?_
    rintro e w' ⟨rfl, hb⟩
    exact ⟨_, n, L, rfl, h.below hb, hn, fun _ _ => ⟨rfl, rfl⟩, Only.of_below hb⟩
  · refine (offer_t h i hi (hn i) vol blk dg wr dr hr hg hK t ht _ rfl).mono ?_
    rintro e w' ⟨g, rfl, _, _, hB, hO⟩
    refine ⟨_, _, _, rfl, hB, fun j => ?_, fun j hj => ⟨ups_ne _ _ _ _ (by omega), ups_ne _ _ _ _ (by omega)⟩, hO⟩
    by_cases e : j = i
    · subst e
      rw [ups_same]
      have := Int.emod_nonneg (n j) (show (4294967295 : Int) ≠ 0 by omega)
      omega
    · rw [ups_ne _ _ _ _ e]
      exact hn j
theorem take_step {w : World} {b : Nat} {c : Nat → Nat} {n : Nat → Int} {L : Nat → List Chl} (h : Bk w b c n L) (hn : ∀ i, 0 ≤ n i) (t m : Int) :
    Calls Tryd.prog 16 #[.pointer (some ⟨b, 0, none⟩), .int .i64 t, .int .i64 m] w fun e w' => ∃ v n' L', e = .returned v ∧ Stp b c n L t w w' n' L' := by
  rcases tn_cases t with ht | ⟨i, hi, ht⟩
  · refine (take_none13 w b t m ht).mono ?_
    rintro e w' ⟨rfl, hb⟩
    exact ⟨_, n, L, rfl, h.below hb, hn, fun _ _ => ⟨rfl, rfl⟩, Only.of_below hb⟩
  · cases hk : tk m (L i) (L i).length with
    | none =>
      refine (take_nt h i hi m hk t ht).mono ?_
      rintro e w' ⟨rfl, hB, hO⟩
      exact ⟨_, _, _, rfl, hB, hn, fun j hj => ⟨rfl, ups_ne _ _ _ _ (by omega)⟩, hO⟩
    | some x =>
      refine (take_yt h i hi m x hk t ht).mono ?_
      rintro e w' ⟨g, rfl, _, _, hB, hO⟩
      exact ⟨_, _, _, rfl, hB, hn, fun j hj => ⟨rfl, ups_ne _ _ _ _ (by omega)⟩, hO⟩
theorem forget_step {w : World} {b : Nat} {c : Nat → Nat} {n : Nat → Int} {L : Nat → List Chl} (h : Bk w b c n L) (hn : ∀ i, 0 ≤ n i) (t : Int) :
    Calls Tryd.prog 18 #[.pointer (some ⟨b, 0, none⟩), .int .i64 t] w fun e w' => ∃ v n' L', e = .returned v ∧ Stp b c n L t w w' n' L' := by
  rcases tn_cases t with ht | ⟨i, hi, ht⟩
  · refine (forget_none w b t ht).mono ?_
    rintro e w' ⟨rfl, rfl⟩
    exact ⟨_, n, L, rfl, h, hn, fun _ _ => ⟨rfl, rfl⟩, Only.refl _ _⟩
  · refine (forget_ok h i hi t ht).mono ?_
    rintro e w' ⟨rfl, hB, hO⟩
    exact ⟨_, _, _, rfl, hB, hn, fun j hj => ⟨rfl, ups_ne _ _ _ _ (by omega)⟩, hO⟩
/-- Two books, apart. -/
structure Tb (w0 : World) (N A B : Nat) (nA : Nat → Int) (LA : Nat → List Chl) (nB : Nat → Int) (LB : Nat → List Chl) (z : World) : Prop where
  a : Bk z A (fun i => A + 1 + i) nA LA
  b : Bk z B (fun i => B + 1 + i) nB LB
  lo : Below N w0 z
  hN : N ≤ A
  ab : A + 9 ≤ B
theorem Tb.low {w0 z z' : World} {N A B : Nat} {nA nB : Nat → Int} {LA LB : Nat → List Chl} (h : Tb w0 N A B nA LA nB LB z) (hb : Below z.heap.size z z') : Tb w0 N A B nA LA nB LB z' :=
  ⟨h.a.below hb, h.b.below hb, h.lo.trans (hb.mono (by have := h.a.blk.lt; have := h.hN; omega)), h.hN, h.ab⟩
theorem Tb.chgA {w0 z z' : World} {N A B : Nat} {nA nB nA' : Nat → Int} {LA LB LA' : Nat → List Chl} (h : Tb w0 N A B nA LA nB LB z) (hB : Bk z' A (fun i => A + 1 + i) nA' LA') (hO : Only (OnB A (fun i => A + 1 + i)) z z') : Tb w0 N A B nA' LA' nB LB z' := by
  have h1 := h.hN
  have h2 := h.ab
  have h3 := h.a.blk.lt
  refine ⟨hB, h.b.only hO (fun q => ?_) (fun j hj q => ?_), below_onB h.lo hO (by omega) h1 (fun i _ => by omega), h1, h2⟩
  · rcases q with q | ⟨i, hi, q⟩
    · omega
    · have q9 : B = A + 1 + i := q
      omega
  · have q8 : OnB A (fun i => A + 1 + i) (B + 1 + j) := q
    rcases q8 with q | ⟨i, hi, q⟩
    · omega
    · have q9 : B + 1 + j = A + 1 + i := q
      omega
theorem Tb.chgB {w0 z z' : World} {N A B : Nat} {nA nB nB' : Nat → Int} {LA LB LB' : Nat → List Chl} (h : Tb w0 N A B nA LA nB LB z) (hB : Bk z' B (fun i => B + 1 + i) nB' LB') (hO : Only (OnB B (fun i => B + 1 + i)) z z') : Tb w0 N A B nA LA nB' LB' z' := by
  have h1 := h.hN
  have h2 := h.ab
  have h3 := h.b.blk.lt
  refine ⟨h.a.only hO (fun q => ?_) (fun j hj q => ?_), hB, below_onB h.lo hO (by omega) (by omega) (fun i _ => by omega), h1, h2⟩
  · rcases q with q | ⟨i, hi, q⟩
    · omega
    · have q9 : A = B + 1 + i := q
      omega
  · have q8 : OnB B (fun i => B + 1 + i) (A + 1 + j) := q
    rcases q8 with q | ⟨i, hi, q⟩
    · omega
    · have q9 : A + 1 + j = B + 1 + i := q
      omega
theorem Tb.top {w0 z : World} {N A B : Nat} {nA nB : Nat → Int} {LA LB : Nat → List Chl} (h : Tb w0 N A B nA LA nB LB z) : N ≤ z.heap.size ∧ B + 9 ≤ z.heap.size := by
  have h1 := h.hN
  have h2 := h.ab
  have h3 := (h.b.ch 7 (by omega)).lt
  have h4 : B + 1 + 7 < z.heap.size := h3
  exact ⟨by omega, by omega⟩
end Go.Proofs.YthnlggbnielgdaaDoor
