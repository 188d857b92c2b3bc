import Derived.Test.YthnlggbnielgdaaDoorPea
import Derived.Deep.DeepHandedRow
import Derived.Lib.SmallJoins
namespace Go.Proofs.YthnlggbnielgdaaDoor
open Go.RowKit Go.Conc
set_option maxRecDepth 100000
/-- A step of a script. -/
structure Opr where
  o : Bool
  kd : Int
  t : Int
  n : Int
  r : Bool
  k : Bool
  v : Int
  b : Int
  d : ByteArray
  q : ByteArray
  dr : ByteArray
def Opr.cl (x : Opr) : List Value := [.bool x.o, .int .i64 x.kd, .int .i64 x.t, .int .i64 x.n, .bool x.r, .bool x.k, .int .i64 x.v, .int .i64 x.b, .string x.d, .string x.q, .string x.dr]
def Opr.ok (x : Opr) : Prop := I64 x.kd ∧ I64 x.t ∧ I64 x.n ∧ I64 x.v ∧ I64 x.b
def opr0 : Opr := ⟨false, 0, 0, 0, false, false, 0, 0, ⟨#[]⟩, ⟨#[]⟩, ⟨#[]⟩⟩
instance : Inhabited Opr := ⟨opr0⟩
def OpR (w : World) (p : Option Addr) (n : Nat) (f : Nat → Opr) : Prop := ∀ i, i < n → ∃ g o, p = some ⟨g, o, none⟩ ∧ g < w.heap.size ∧ w.rangeAt g (o + i * 11) (f i).cl ∧ (f i).ok
theorem list11 {α : Type} {l : List α} (h : l.length = 11) : ∃ c0 c1 c2 c3 c4 c5 c6 c7 c8 c9 c10, l = [c0, c1, c2, c3, c4, c5, c6, c7, c8, c9, c10] := by
  match l, h with
  | [c0, c1, c2, c3, c4, c5, c6, c7, c8, c9, c10], _ => exact ⟨c0, c1, c2, c3, c4, c5, c6, c7, c8, c9, c10, rfl⟩
theorem list8 {α : Type} {l : List α} (h : l.length = 8) : ∃ c0 c1 c2 c3 c4 c5 c6 c7, l = [c0, c1, c2, c3, c4, c5, c6, c7] := by
  match l, h with
  | [c0, c1, c2, c3, c4, c5, c6, c7], _ => exact ⟨c0, c1, c2, c3, c4, c5, c6, c7, rfl⟩
theorem cells3 : Tryd.prog.cellsOf 3 = 1 := by kernel_rfl
theorem cells4 : Tryd.prog.cellsOf 4 = 1 := by kernel_rfl
theorem cells9 : Tryd.prog.cellsOf 9 = 1 := by kernel_rfl
theorem cellsOff : Tryd.prog.cellsOf 31 = 4 := by kernel_rfl
theorem open_op13 {H : Type} {enc : TypeId × Value → H} {w : World} {base : Nat} {spare : Nat → Bool} {held : Bool} {fuel : Nat} {cs : List Value} {x : DataW H × List MemPlace} (hl : cs.length = 11) (h : DataW.trod enc Tryd.prog w base spare held fuel 42 cs = some x) : ∃ q : Opr, cs = q.cl ∧ q.ok := by
  obtain ⟨c0, c1, c2, c3, c4, c5, c6, c7, c8, c9, c10, rfl⟩ := list11 hl
  obtain ⟨xs, n, _, hx, hl, hlen, hfs⟩ := DataW.trod_struct Tryd.underlying42 h
  obtain ⟨y0, y1, y2, y3, y4, y5, y6, y7, rfl⟩ := list8 (show xs.length = 8 from hlen)
  have g0 := hfs 0 _ rfl
  have g1 := hfs 1 _ rfl
  have g2 := hfs 2 _ rfl
  have g3 := hfs 3 _ rfl
  have g4 := hfs 4 _ rfl
  have g5 := hfs 5 _ rfl
  have g6 := hfs 6 _ rfl
  have g7 := hfs 7 _ rfl
  simp [cells3, cells4, cells9, cellsOff] at g0 g1 g2 g3 g4 g5 g6 g7
  obtain ⟨k0, e0, _⟩ := DataW.trod_bool Tryd.underlying4 g0
  obtain ⟨k1, e1, _, f1⟩ := DataW.trod_int Tryd.underlying3 g1
  obtain ⟨k2, e2, _, f2⟩ := DataW.trod_int Tryd.underlying3 g2
  obtain ⟨k3, e3, _, f3⟩ := DataW.trod_int Tryd.underlying3 g3
  obtain ⟨k4, e4, _⟩ := DataW.trod_bool Tryd.underlying4 g4
  obtain ⟨k5, e5, _⟩ := DataW.trod_bool Tryd.underlying4 g5
  obtain ⟨u0, u1, u2, u3, m, _, _, a0, a1, a2, a3⟩ := Go.Joins.trod_struct4 Tryd.underlying31 g6
  simp [cells3, cells9] at a0 a1 a2 a3
  obtain ⟨k6, e6, _, f6⟩ := DataW.trod_int Tryd.underlying3 a0
  obtain ⟨k7, e7, _, f7⟩ := DataW.trod_int Tryd.underlying3 a1
  obtain ⟨k8, e8, _, _⟩ := DataW.trod_string Tryd.underlying9 a2
  obtain ⟨k9, e9, _, _⟩ := DataW.trod_string Tryd.underlying9 a3
  obtain ⟨k10, e10, _, _⟩ := DataW.trod_string Tryd.underlying9 g7
  simp at e0 e1 e2 e3 e4 e5 e6 e7 e8 e9 e10
  subst e0 e1 e2 e3 e4 e5 e6 e7 e8 e9 e10
  exact ⟨⟨k0, k1, k2, k3, k4, k5, k6, k7, k8, k9, k10⟩, rfl, wf_I64 f1, wf_I64 f2, wf_I64 f3, wf_I64 f6, wf_I64 f7⟩
theorem open_ops13 {H : Type} {enc : TypeId × Value → H} {w : World} {base : Nat} {spare : Nat → Bool} {held : Bool} {fuel : Nat} {a : Option Addr} {len cap : Nat} {x : DataW H × List MemPlace} (h : DataW.trod enc Tryd.prog w base spare held fuel 40 [.slice a len cap] = some x) :
    ∃ f : Nat → Opr, OpR w a len f ∧ len ≤ 9223372036854775807 := by
  rcases Deep.open_slice Tryd.underlying40 h with ⟨hcs, _⟩ | ⟨ad, ln, cp, m, n, D, Pl, hcs, hb, hl, hm, hmm, rfl, hx⟩
  · simp at hcs
    obtain ⟨rfl, rfl, rfl⟩ := hcs
    exact ⟨fun _ => opr0, fun i hi => absurd hi (Nat.not_lt_zero i), by omega⟩
  · simp at hcs
    obtain ⟨rfl, rfl, rfl⟩ := hcs
    have hlm : len ≤ m := by rw [hmm]; split <;> omega
    have hML : (maxLen : Nat) = 9223372036854775807 := rfl
    have each : ∀ i, i < len → ∃ q : Opr, q.ok ∧ ∀ j v, q.cl[j]? = some v → w.cell? (ad.add (i * 11 + j)) = some v := by
      intro i hi
      obtain ⟨cs', h1, h2⟩ := hx i (by omega)
      rw [show Tryd.prog.cellsOf 42 = 11 by kernel_rfl] at h1
      obtain ⟨_, hlen, hcell⟩ := World.cells?_some h1
      obtain ⟨q, rfl, hok⟩ := open_op13 hlen h2
      refine ⟨q, hok, fun j v hv => ?_⟩
      have hj : j < 11 := by
        rcases Nat.lt_or_ge j 11 with h | h
        · exact h
        · rw [List.getElem?_eq_none (by omega)] at hv
          cases hv
      have c0 := hcell j hj
      rw [Deep.add_add, hv] at c0
      exact c0
    obtain ⟨q, hq⟩ := Deep.choose_lt each
    refine ⟨q, fun i hi => ?_, by omega⟩
    obtain ⟨hok, hc⟩ := hq i hi
    obtain ⟨b, off, spot⟩ := ad
    have z0 := (hq 0 (by omega)).2 0 _ rfl
    have hspot : spot = none := by simpa [Addr.add] using World.cell?_spot z0
    subst hspot
    have z1 := hc 0 _ rfl
    rw [Addr.add_mid] at z1
    refine ⟨b, off, rfl, World.block_lt_of_cell? w _ z1, fun j v hv => ?_, hok⟩
    have z2 := hc j v hv
    rw [Addr.add_mid] at z2
    rw [Nat.add_assoc]
    exact z2
theorem OpR.low {w w' : World} {p : Option Addr} {n : Nat} {f : Nat → Opr} (h : OpR w p n f) (hb : Below w.heap.size w w') : OpR w' p n f := fun i hi => by
  obtain ⟨g, o, e, hg, hr, hok⟩ := h i hi
  exact ⟨g, o, e, Nat.lt_of_lt_of_le hg hb.size, fun j v hv => (hb.cell (p := ⟨g, o + i * 11 + j, none⟩) hg).trans (hr j v hv), hok⟩
/-- Two books: what tenant a + 1 has in each of them. -/
structure Ap (w0 : World) (N A B a : Nat) (n : Int) (l : List Chl) (m : Int) (k : List Chl) (z : World) : Prop where
  ex : ∃ nA LA nB LB, Tb w0 N A B nA LA nB LB z ∧ (∀ i, 0 ≤ nA i) ∧ (∀ i, 0 ≤ nB i) ∧ nA a = n ∧ nB a = m ∧ LA a = l ∧ LB a = k
theorem Ap.low {w0 z z' : World} {N A B a : Nat} {n m : Int} {l k : List Chl} (h : Ap w0 N A B a n l m k z) (hb : Below z.heap.size z z') : Ap w0 N A B a n l m k z' := by
  obtain ⟨nA, LA, nB, LB, hT, h1, h2, h3, h4, h5, h6⟩ := h.ex
  exact ⟨nA, LA, nB, LB, hT.low hb, h1, h2, h3, h4, h5, h6⟩
theorem Ap.lo {w0 z : World} {N A B a : Nat} {n m : Int} {l k : List Chl} (h : Ap w0 N A B a n l m k z) : Below N w0 z := by
  obtain ⟨nA, LA, nB, LB, hT, h1⟩ := h.ex
  exact hT.lo
theorem Ap.top {w0 z : World} {N A B a : Nat} {n m : Int} {l k : List Chl} (h : Ap w0 N A B a n l m k z) : N ≤ z.heap.size ∧ B + 9 ≤ z.heap.size := by
  obtain ⟨nA, LA, nB, LB, hT, h1⟩ := h.ex
  exact hT.top
theorem Tb.oth {w0 z z' : World} {N A B G : Nat} {nA nB : Nat → Int} {LA LB : Nat → List Chl} (h : Tb w0 N A B nA LA nB LB z) (ho : Only (fun x => x = G) z z') (hG : B + 9 ≤ G) : Tb w0 N A B nA LA nB LB z' := by
  have h1 := h.hN
  have h2 := h.ab
  have h3 := h.top
  exact ⟨h.a.only ho (by omega) (fun i hi => by show ¬ (A + 1 + i = G); omega), h.b.only ho (by omega) (fun i hi => by show ¬ (B + 1 + i = G); omega), h.lo.trans (ho.below (by omega) (fun k hk => by omega)), h1, h2⟩
theorem Ap.oth {w0 z z' : World} {N A B a G : Nat} {n m : Int} {l k : List Chl} (h : Ap w0 N A B a n l m k z) (ho : Only (fun x => x = G) z z') (hG : B + 9 ≤ G) : Ap w0 N A B a n l m k z' := by
  obtain ⟨nA, LA, nB, LB, hT, h1⟩ := h.ex
  exact ⟨nA, LA, nB, LB, hT.oth ho hG, h1⟩
theorem Ap.offerB {w0 z : World} {N A B a : Nat} {n m : Int} {l k : List Chl} (h : Ap w0 N A B a n l m k z) (t : Int) (ht : (a : Int) + 1 ≠ t) (vol blk : Int) (dg wr dr : ByteArray) (hr : dr.size = 16) (hg : dg.size = 32) (hK : KTab z) :
    Calls Tryd.prog 12 #[.pointer (some ⟨B, 0, none⟩), .int .i64 t, .agg #[.int .i64 vol, .int .i64 blk, .string dg, .string wr], .string dr] z fun e w' => ∃ v, e = .returned v ∧ Ap w0 N A B a n l m k w' ∧ Only (OnB B (fun i => B + 1 + i)) z w' := by
  obtain ⟨nA, LA, nB, LB, hT, h1, h2, h3, h4, h5, h6⟩ := h.ex
  refine (offer_step hT.b h2 t vol blk dg wr dr hr hg hK).mono ?_
  rintro e w' ⟨v, n', L', rfl, hS⟩
  obtain ⟨q1, q2⟩ := hS.same a ht
  exact ⟨v, rfl, ⟨nA, LA, n', L', hT.chgB hS.bk hS.only, h1, hS.nn, h3, q1.trans h4, h5, q2.trans h6⟩, hS.only⟩
theorem Ap.takeB {w0 z : World} {N A B a : Nat} {n m : Int} {l k : List Chl} (h : Ap w0 N A B a n l m k z) (t : Int) (ht : (a : Int) + 1 ≠ t) (q : Int) :
    Calls Tryd.prog 16 #[.pointer (some ⟨B, 0, none⟩), .int .i64 t, .int .i64 q] z fun e w' => ∃ v, e = .returned v ∧ Ap w0 N A B a n l m k w' ∧ Only (OnB B (fun i => B + 1 + i)) z w' := by
  obtain ⟨nA, LA, nB, LB, hT, h1, h2, h3, h4, h5, h6⟩ := h.ex
  refine (take_step hT.b h2 t q).mono ?_
  rintro e w' ⟨v, n', L', rfl, hS⟩
  obtain ⟨q1, q2⟩ := hS.same a ht
  exact ⟨v, rfl, ⟨nA, LA, n', L', hT.chgB hS.bk hS.only, h1, hS.nn, h3, q1.trans h4, h5, q2.trans h6⟩, hS.only⟩
theorem Ap.forgetB {w0 z : World} {N A B a : Nat} {n m : Int} {l k : List Chl} (h : Ap w0 N A B a n l m k z) (t : Int) (ht : (a : Int) + 1 ≠ t) :
    Calls Tryd.prog 18 #[.pointer (some ⟨B, 0, none⟩), .int .i64 t] z fun e w' => ∃ v, e = .returned v ∧ Ap w0 N A B a n l m k w' ∧ Only (OnB B (fun i => B + 1 + i)) z w' := by
  obtain ⟨nA, LA, nB, LB, hT, h1, h2, h3, h4, h5, h6⟩ := h.ex
  refine (forget_step hT.b h2 t).mono ?_
  rintro e w' ⟨v, n', L', rfl, hS⟩
  obtain ⟨q1, q2⟩ := hS.same a ht
  exact ⟨v, rfl, ⟨nA, LA, n', L', hT.chgB hS.bk hS.only, h1, hS.nn, h3, q1.trans h4, h5, q2.trans h6⟩, hS.only⟩
/-- A list that lies behind both books. -/
def Fri (B : Nat) (ao : Option Addr) : Prop := ∀ g o p, ao = some ⟨g, o, p⟩ → B + 9 ≤ g
/-- Lists that lie behind both books stay. -/
def Kil (B : Nat) (z z' : World) : Prop := ∀ ao (l : List Int), Ils z ao l → Fri B ao → Ils z' ao l
theorem Kil.of {A B : Nat} {z z' : World} (ho : Only (OnB A (fun i => A + 1 + i)) z z') (h : A ≤ B) : Kil B z z' := fun ao l hl hf => hl.only ho (fun g o p e q => by
  have h9 := hf g o p e
  rcases q with q | ⟨i, hi, q⟩
  · omega
  · have q9 : g = A + 1 + i := q
    omega)
theorem Kil.low {B : Nat} {z z' : World} (h : Below z.heap.size z z') : Kil B z z' := fun _ _ hl _ => hl.below h
theorem Kil.oth {B G : Nat} {z z' : World} (ho : Only (fun x => x = G) z z') (hG : z.heap.size ≤ G) : Kil B z z' := fun ao l hl _ => fun j hj => by
  obtain ⟨g, o, e, hg, hc⟩ := hl j hj
  have := ho.size
  exact ⟨g, o, e, by omega, only_cell ho (show ¬ (g = G) by omega) hc⟩
def plI (dr dg : ByteArray) : List Int := (plO dr dg).map (fun p : Nat => (p : Int))
theorem plI_len (dr dg : ByteArray) (hr : dr.size = 16) (hg : dg.size = 32) : (plI dr dg).length = 8 := by rw [plI, List.length_map, plO_len dr dg hr hg]
def nxN (n : Int) : Int := n % 4294967295 + 1
def nxL (n : Int) (l : List Chl) (vol blk : Int) (dg wr dr : ByteArray) : List Chl := pushL l ⟨nxN n, vol, blk, dg, wr, fun j => (((plO dr dg).getD j 0 : Nat) : Int)⟩
def tkv (m : Int) (l : List Chl) : Int := (tk m l l.length).elim 0 (fun x => x.v)
def tkk (m : Int) (l : List Chl) : Int := (tk m l l.length).elim 0 (fun x => x.k)
def tkd (m : Int) (l : List Chl) : ByteArray := (tk m l l.length).elim ⟨#[]⟩ (fun x => x.d)
def tkq (m : Int) (l : List Chl) : ByteArray := (tk m l l.length).elim ⟨#[]⟩ (fun x => x.q)
def tkE (m : Int) (l : List Chl) : Int := (tk m l l.length).elim 130 (fun _ => 0)
def tkP (m : Int) (l : List Chl) : List Int := (tk m l l.length).elim [] (fun x => (List.range 8).map x.p)
theorem tkP_len (m : Int) (l : List Chl) : (tkP m l).length ≤ 8 := by
  unfold tkP
  cases tk m l l.length <;> simp
theorem lt8 {j : Nat} (h : j < 8) : j = 0 ∨ j = 1 ∨ j = 2 ∨ j = 3 ∨ j = 4 ∨ j = 5 ∨ j = 6 ∨ j = 7 := by omega
theorem ils_tk {w : World} {g : Nat} {x : Chl} {T : TypeId} (h : Blk w g x.cs T) : Ils w (some ⟨g, 5, none⟩) ((List.range 8).map x.p) := fun j hj => by
  have hj8 : j < 8 := by simpa using hj
  refine ⟨g, 5, rfl, h.lt, ?_⟩
  rw [h.cell]
  rcases lt8 hj8 with rfl | rfl | rfl | rfl | rfl | rfl | rfl | rfl <;> rfl
theorem nxN_pos (n : Int) : 0 ≤ nxN n := by
  have := Int.emod_nonneg n (show (4294967295 : Int) ≠ 0 by omega)
  unfold nxN
  omega
theorem ups_nn {f : Nat → Int} (h : ∀ i, 0 ≤ f i) {x : Int} (hx : 0 ≤ x) (a j : Nat) : 0 ≤ ups f a x j := by
  by_cases e : j = a
  · subst e
    rw [ups_same]
    exact hx
  · rw [ups_ne _ _ _ _ e]
    exact h j
theorem Ap.ownOfferA {w0 z : World} {N A B a : Nat} {n m : Int} {l k : List Chl} (h : Ap w0 N A B a n l m k z) (ha : a < 8) (t : Int) (ht : t = (a : Int) + 1) (vol blk : Int) (dg wr dr : ByteArray) (hr : dr.size = 16) (hg : dg.size = 32) (hK : KTab z) :
    Calls Tryd.prog 12 #[.pointer (some ⟨A, 0, none⟩), .int .i64 t, .agg #[.int .i64 vol, .int .i64 blk, .string dg, .string wr], .string dr] z fun e w' => ∃ ao, e = .returned (.tuple #[.int .i64 (nxN n), .slice ao 8 8, .int .i64 0]) ∧ Ils w' ao (plI dr dg) ∧ Fri B ao ∧ Ap w0 N A B a (nxN n) (nxL n l vol blk dg wr dr) m k w' ∧ Only (OnB A (fun i => A + 1 + i)) z w' := by
  obtain ⟨nA, LA, nB, LB, hT, h1, h2, h3, h4, h5, h6⟩ := h.ex
  have h9 := hT.top
  refine (offer_t hT.a a ha (h1 a) vol blk dg wr dr hr hg hK t ht _ rfl).mono ?_
  rintro e w' ⟨g, rfl, hg9, hG, hB, hO⟩
  rw [h3, h5] at hB
  rw [h3]
  refine ⟨_, rfl, ils_arr8 hG (plO_len dr dg hr hg), fun g' o p e => ?_, ?_, hO⟩
  · injection e with e
    injection e with e1
    omega
  · refine ⟨_, _, nB, LB, hT.chgA hB hO, fun j => ?_, h2, ups_same _ _ _, h4, ups_same _ _ _, h6⟩
    exact ups_nn h1 (nxN_pos n) a j
theorem Ap.ownTakeA {w0 z : World} {N A B a : Nat} {n m : Int} {l k : List Chl} (h : Ap w0 N A B a n l m k z) (ha : a < 8) (t : Int) (ht : t = (a : Int) + 1) (q : Int) :
    Calls Tryd.prog 16 #[.pointer (some ⟨A, 0, none⟩), .int .i64 t, .int .i64 q] z fun e w' => ∃ ao cap, e = .returned (.tuple #[.agg #[.int .i64 (tkv q l), .int .i64 (tkk q l), .string (tkd q l), .string (tkq q l)], .slice ao (tkP q l).length cap, .int .i64 (tkE q l)]) ∧ Ils w' ao (tkP q l) ∧ Fri B ao ∧ Ap w0 N A B a n (rmv q l) m k w' ∧ Only (OnB A (fun i => A + 1 + i)) z w' := by
  obtain ⟨nA, LA, nB, LB, hT, h1, h2, h3, h4, h5, h6⟩ := h.ex
  have h9 := hT.top
  cases hk : tk q l l.length with
  | none =>
    refine (take_nt hT.a a ha q (by rw [h5]; exact hk) t ht).mono ?_
    rintro e w' ⟨rfl, hB, hO⟩
    rw [h5] at hB
    have f1 : tkv q l = 0 ∧ tkk q l = 0 ∧ tkd q l = ⟨#[]⟩ ∧ tkq q l = ⟨#[]⟩ ∧ tkE q l = 130 ∧ tkP q l = [] := by simp [tkv, tkk, tkd, tkq, tkE, tkP, hk]
    obtain ⟨f1, f2, f3, f4, f5, f6⟩ := f1
    rw [f1, f2, f3, f4, f5, f6]
    refine ⟨none, 0, rfl, fun j hj => absurd hj (Nat.not_lt_zero j), fun g' o p e => (by cases e), ?_, hO⟩
    exact ⟨nA, _, nB, LB, hT.chgA hB hO, h1, h2, h3, h4, ups_same _ _ _, h6⟩
  | some x =>
    refine (take_yt hT.a a ha q x (by rw [h5]; exact hk) t ht).mono ?_
    rintro e w' ⟨g, rfl, hg9, hG, hB, hO⟩
    rw [h5] at hB
    have f1 : tkv q l = x.v ∧ tkk q l = x.k ∧ tkd q l = x.d ∧ tkq q l = x.q ∧ tkE q l = 0 ∧ tkP q l = (List.range 8).map x.p := by simp [tkv, tkk, tkd, tkq, tkE, tkP, hk]
    obtain ⟨f1, f2, f3, f4, f5, f6⟩ := f1
    rw [f1, f2, f3, f4, f5, f6]
    refine ⟨_, 8, by rw [List.length_map, List.length_range], ils_tk hG, fun g' o p e => ?_, ?_, hO⟩
    · injection e with e
      injection e with e1
      omega
    · exact ⟨nA, _, nB, LB, hT.chgA hB hO, h1, h2, h3, h4, ups_same _ _ _, h6⟩
theorem Ap.ownPendA {w0 z : World} {N A B a : Nat} {n m : Int} {l k : List Chl} (h : Ap w0 N A B a n l m k z) (ha : a < 8) (t : Int) (ht : t = (a : Int) + 1) :
    Calls Tryd.prog 15 #[.pointer (some ⟨A, 0, none⟩), .int .i64 t] z fun e w' => ∃ ao cap, e = .returned (.tuple #[.slice ao (ncs l).length cap, .int .i64 0]) ∧ Ils w' ao (ncs l) ∧ Fri B ao ∧ Ap w0 N A B a n l m k w' ∧ Only (OnB A (fun i => A + 1 + i)) z w' := by
  obtain ⟨nA, LA, nB, LB, hT, h1, h2, h3, h4, h5, h6⟩ := h.ex
  have h9 := hT.top
  refine (pending_ok hT.a a ha t ht).mono ?_
  rintro e w' ⟨ao, cap, rfl, hI, hfr, hB, hO⟩
  rw [h5] at hI
  rw [h5]
  refine ⟨ao, cap, rfl, hI, fun g' o p e => ?_, ⟨nA, LA, nB, LB, hT.chgA hB hO, h1, h2, h3, h4, h5, h6⟩, hO⟩
  have := hfr g' o p e
  omega
theorem Ap.lenA {w0 z : World} {N A B a : Nat} {n m : Int} {l k : List Chl} (h : Ap w0 N A B a n l m k z) (ha : a < 8) : l.length ≤ 4 := by
  obtain ⟨nA, LA, nB, LB, hT, h1, h2, h3, h4, h5, h6⟩ := h.ex
  have := hT.a.len a ha
  rwa [h5] at this
theorem Ap.ownOfferB {w0 z : World} {N A B a : Nat} {n m : Int} {l k : List Chl} (h : Ap w0 N A B a n l m k z) (ha : a < 8) (t : Int) (ht : t = (a : Int) + 1) (vol blk : Int) (dg wr dr : ByteArray) (hr : dr.size = 16) (hg : dg.size = 32) (hK : KTab z) :
    Calls Tryd.prog 12 #[.pointer (some ⟨B, 0, none⟩), .int .i64 t, .agg #[.int .i64 vol, .int .i64 blk, .string dg, .string wr], .string dr] z fun e w' => ∃ ao, e = .returned (.tuple #[.int .i64 (nxN m), .slice ao 8 8, .int .i64 0]) ∧ Ils w' ao (plI dr dg) ∧ Fri B ao ∧ Ap w0 N A B a n l (nxN m) (nxL m k vol blk dg wr dr) w' ∧ Only (OnB B (fun i => B + 1 + i)) z w' := by
  obtain ⟨nA, LA, nB, LB, hT, h1, h2, h3, h4, h5, h6⟩ := h.ex
  have h9 := hT.top
  refine (offer_t hT.b a ha (h2 a) vol blk dg wr dr hr hg hK t ht _ rfl).mono ?_
  rintro e w' ⟨g, rfl, hg9, hG, hB, hO⟩
  rw [h4, h6] at hB
  rw [h4]
  refine ⟨_, rfl, ils_arr8 hG (plO_len dr dg hr hg), fun g' o p e => ?_, ?_, hO⟩
  · injection e with e
    injection e with e1
    omega
  · refine ⟨nA, LA, _, _, hT.chgB hB hO, h1, fun j => ?_, h3, ups_same _ _ _, h5, ups_same _ _ _⟩
    exact ups_nn h2 (nxN_pos m) a j
theorem Ap.ownTakeB {w0 z : World} {N A B a : Nat} {n m : Int} {l k : List Chl} (h : Ap w0 N A B a n l m k z) (ha : a < 8) (t : Int) (ht : t = (a : Int) + 1) (q : Int) :
    Calls Tryd.prog 16 #[.pointer (some ⟨B, 0, none⟩), .int .i64 t, .int .i64 q] z fun e w' => ∃ ao cap, e = .returned (.tuple #[.agg #[.int .i64 (tkv q k), .int .i64 (tkk q k), .string (tkd q k), .string (tkq q k)], .slice ao (tkP q k).length cap, .int .i64 (tkE q k)]) ∧ Ils w' ao (tkP q k) ∧ Fri B ao ∧ Ap w0 N A B a n l m (rmv q k) w' ∧ Only (OnB B (fun i => B + 1 + i)) z w' := by
  obtain ⟨nA, LA, nB, LB, hT, h1, h2, h3, h4, h5, h6⟩ := h.ex
  have h9 := hT.top
  cases hk : tk q k k.length with
  | none =>
    refine (take_nt hT.b a ha q (by rw [h6]; exact hk) t ht).mono ?_
    rintro e w' ⟨rfl, hB, hO⟩
    rw [h6] at hB
    have f1 : tkv q k = 0 ∧ tkk q k = 0 ∧ tkd q k = ⟨#[]⟩ ∧ tkq q k = ⟨#[]⟩ ∧ tkE q k = 130 ∧ tkP q k = [] := by simp [tkv, tkk, tkd, tkq, tkE, tkP, hk]
    obtain ⟨f1, f2, f3, f4, f5, f6⟩ := f1
    rw [f1, f2, f3, f4, f5, f6]
    refine ⟨none, 0, rfl, fun j hj => absurd hj (Nat.not_lt_zero j), fun g' o p e => (by cases e), ?_, hO⟩
    exact ⟨nA, LA, nB, _, hT.chgB hB hO, h1, h2, h3, h4, h5, ups_same _ _ _⟩
  | some x =>
    refine (take_yt hT.b a ha q x (by rw [h6]; exact hk) t ht).mono ?_
    rintro e w' ⟨g, rfl, hg9, hG, hB, hO⟩
    rw [h6] at hB
    have f1 : tkv q k = x.v ∧ tkk q k = x.k ∧ tkd q k = x.d ∧ tkq q k = x.q ∧ tkE q k = 0 ∧ tkP q k = (List.range 8).map x.p := by simp [tkv, tkk, tkd, tkq, tkE, tkP, hk]
    obtain ⟨f1, f2, f3, f4, f5, f6⟩ := f1
    rw [f1, f2, f3, f4, f5, f6]
    refine ⟨_, 8, by rw [List.length_map, List.length_range], ils_tk hG, fun g' o p e => ?_, ?_, hO⟩
    · injection e with e
      injection e with e1
      omega
    · exact ⟨nA, LA, nB, _, hT.chgB hB hO, h1, h2, h3, h4, h5, ups_same _ _ _⟩
theorem Ap.ownPendB {w0 z : World} {N A B a : Nat} {n m : Int} {l k : List Chl} (h : Ap w0 N A B a n l m k z) (ha : a < 8) (t : Int) (ht : t = (a : Int) + 1) :
    Calls Tryd.prog 15 #[.pointer (some ⟨B, 0, none⟩), .int .i64 t] z fun e w' => ∃ ao cap, e = .returned (.tuple #[.slice ao (ncs k).length cap, .int .i64 0]) ∧ Ils w' ao (ncs k) ∧ Fri B ao ∧ Ap w0 N A B a n l m k w' ∧ Only (OnB B (fun i => B + 1 + i)) z w' := by
  obtain ⟨nA, LA, nB, LB, hT, h1, h2, h3, h4, h5, h6⟩ := h.ex
  have h9 := hT.top
  refine (pending_ok hT.b a ha t ht).mono ?_
  rintro e w' ⟨ao, cap, rfl, hI, hfr, hB, hO⟩
  rw [h6] at hI
  rw [h6]
  refine ⟨ao, cap, rfl, hI, fun g' o p e => ?_, ⟨nA, LA, nB, LB, hT.chgB hB hO, h1, h2, h3, h4, h5, h6⟩, hO⟩
  have := hfr g' o p e
  omega
theorem Ap.lenB {w0 z : World} {N A B a : Nat} {n m : Int} {l k : List Chl} (h : Ap w0 N A B a n l m k z) (ha : a < 8) : k.length ≤ 4 := by
  obtain ⟨nA, LA, nB, LB, hT, h1, h2, h3, h4, h5, h6⟩ := h.ex
  have := hT.b.len a ha
  rwa [h6] at this
end Go.Proofs.YthnlggbnielgdaaDoor
