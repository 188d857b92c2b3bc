import Derived.Test.YtclgkgaobjcifaaGreatDoorMy25
import Derived.BigQuiet
import Derived.Test.YtclgkgaobjcifaaGreatDoorMy15
import Derived.Great.BuildSlice
import Derived.Test.YtclgkgaobjcifaaGreatDoorMy24
import Derived.Deep.AppendSrc
import Derived.Deep.Upon
import Derived.Deep.DeepCutAuto
namespace Go.Proofs.YtclgkgaobjcifaaGreatDoor
open Go.RowKit
set_option maxRecDepth 100000
set_option maxHeartbeats 8000000 in
theorem still12_any (w : World) (N0 ub : Nat) (vl vm : Value) (E : List Vw) (Dn : Nat → Prop) (h : Bk w N0 ub vl vm E (E.map Vw.m) Dn) (hE : E.length ≤ 1000000) (hn : ∀ e ∈ E, e.n ≤ 1000000) :
    Calls Tryz.prog 23 #[.pointer (some ⟨ub, 0, none⟩)] w fun e w' => e = .returned (.bool true) ∧ Below w.heap.size w w' := by
  obtain ⟨lp, lc, hvl⟩ := own_formW h.rl
  obtain ⟨mp, mc, hvm⟩ := own_formW h.rm
  rw [List.length_map] at hvm
  subst hvl hvm
  obtain ⟨el, hel⟩ : ∃ q, E.length = q := ⟨_, rfl⟩
  have HEL := hide hel
  have HE := hide (And.intro hE hn)
  have HB := hide (show ∀ W, Below w.heap.size w W → Bk W N0 ub (.slice lp el lc) (.slice mp el mc) E (E.map Vw.m) Dn from fun W q => by rw [← hel]; exact h.below q (Nat.le_refl _))
  clear h hE hn hel
  go_enter Tryz.func23, Tryz.ntmps23
  go_wp2
  go_loopw [3, 4] (fun i _ wr => ∃ k : Nat, k ≤ el ∧ i = .int .i64 (k : Int) ∧ Below w.heap.size w wr) (fun i _ _ => el - (intOf i).toNat)
  case atStart => exact ⟨0, by omega, rfl, Below.refl _ _⟩
  case round =>
    obtain ⟨k, hk, rfl, hb⟩ := hrel
    obtain ⟨wo, rfl⟩ : ∃ wo, wo = wr := ⟨_, rfl⟩
    have hB := unhide HB wo hb
    have c0 : wo.cell? ⟨ub, 0, none⟩ = some (.slice lp el lc) := hB.blk.cell 0
    have XB := hide hb
    clear hb
    by_cases hkn : k < el
    · have j1 : (k : Int) < (el : Int) := by omega
      have hkE : k < E.length := by rw [unhide HEL]; exact hkn
      obtain ⟨e, hE0⟩ : ∃ e, E[k]? = some e := ⟨E[k], List.getElem?_eq_getElem hkE⟩
      have HEE := hide hE0
      have hmem : e ∈ E := List.mem_of_getElem? hE0
      have hen := (unhide HE).2 e hmem
      have HMEM := hide hmem
      obtain ⟨p, n, c, m⟩ := e
      simp only at hen
      clear hB c0 hE0 hmem
      have hB := unhide HB wo (unhide XB)
      have c0 : wo.cell? ⟨ub, 0, none⟩ = some (.slice lp el lc) := hB.blk.cell 0
      clear hB
      go_wp2
      clear c0
      go_loopw [4] (fun i wr => ∃ j : Nat, j ≤ n ∧ i = .int .i64 (j : Int) ∧ Below w.heap.size w wr) (fun i _ => n - (intOf i).toNat)
      case atStart => exact ⟨0, by omega, rfl, unhide XB⟩
      case round =>
        obtain ⟨j, hj, rfl, hb⟩ := hrel
        obtain ⟨wi, rfl⟩ : ∃ wi, wi = wr := ⟨_, rfl⟩
        have hB := unhide HB wi hb
        have c0 : wi.cell? ⟨ub, 0, none⟩ = some (.slice lp el lc) := hB.blk.cell 0
        have c1 : wi.cell? ⟨ub, 1, none⟩ = some (.slice mp el mc) := hB.blk.cell 1
        have hel := unhide HEL
        obtain ⟨gl, e1, e2, _⟩ := own_cellW (by have := hB.rl; rw [hel] at this; exact this) k hkn
        obtain ⟨gm, m1, m2, _⟩ := own_cellW (by have := hB.rm; rw [List.length_map, hel] at this; exact this) k hkn
        rw [List.getElem?_map, unhide HEE] at e2
        rw [List.map_map, List.getElem?_map, unhide HEE] at m2
        have e2' : wi.cell? ⟨gl, k, none⟩ = some (.slice p n c) := e2
        have m2' : wi.cell? ⟨gm, k, none⟩ = some (.int .i64 m) := m2
        subst e1 m1
        have XI := hide hb
        have i0 : 0 ≤ (k : Int) := by omega
        by_cases hjn : j < n
        · have j2 : (j : Int) < (n : Int) := by omega
          have j0 : 0 ≤ (j : Int) := by omega
          obtain ⟨g, v1, v2, _⟩ := hB.vw _ (unhide HMEM) j hjn
          have v1' : p = some ⟨g, 0, none⟩ := v1
          have v2' : wi.cell? ⟨g, j, none⟩ = some (.int .i64 m) := v2
          subst v1'
          have hq : (m != m) = false := by simp
          clear hB hb e2 m2 v1 v2 hel
          go_wp2_with fail
          go_quiet (fail)
          go_wp2
          go_roundw
          case rel => exact ⟨j + 1, by omega, by go_num, below_drewN (unhide XI) _⟩
          case measure => simp [intOf]; omega
        · obtain rfl : j = n := by omega
          have j2 : ¬ (j : Int) < (j : Int) := by omega
          have hel1 : el ≤ 1000000 := by have h1 := (unhide HE).1; omega
          clear hB hb e2 m2 hel
          go_wp2
          go_roundw
          case rel => exact ⟨k + 1, by omega, by go_num, unhide XI⟩
          case measure => simp [intOf]; omega
    · obtain rfl : k = el := by omega
      have j1 : ¬ (k : Int) < (k : Int) := by omega
      clear hB
      go_wp2
      go_ret
      exact ⟨rfl, unhide XB⟩
end Go.Proofs.YtclgkgaobjcifaaGreatDoor

namespace Go.Proofs.YtclgkgaobjcifaaGreatDoor
open Go.RowKit
set_option maxRecDepth 100000
def z8 : Array Value := #[.int .i64 0, .int .i64 0, .int .i64 0, .slice none 0 0, .int .i64 0, .slice none 0 0, .string ⟨#[]⟩, .string ⟨#[]⟩]
theorem infoR : (Tryz.prog.info? 34).map (fun i => (i.zero, i.size, i.bytes)) = some (some (.agg z8), 8, 112) := by kernel_rfl
def five (r1 r2 : Rep) : List Value := r1.cl ++ (r1.cl ++ (r2.cl ++ (r1.cl ++ r2.cl)))
theorem fill_one (r : Rep) : Instr.fill (fun i => some (i * 8, 8)) ((Array.range (1 * 8)).map ((Value.agg z8).cells[· % (Value.agg z8).cells.size]!)) [(0, .agg r.cs)] = some r.cs := by kernel_rfl
theorem fill_five (r1 r2 : Rep) : Instr.fill (fun i => some (i * 8, 8)) ((Array.range (5 * 8)).map ((Value.agg z8).cells[· % (Value.agg z8).cells.size]!)) [(0, .agg r1.cs), (1, .agg r1.cs), (2, .agg r2.cs), (3, .agg r1.cs), (4, .agg r2.cs)] = some (five r1 r2).toArray := by kernel_rfl
theorem wpList_rep1 {ops : Array Oper} {rest : List Oper} {o : Oper} {a : Act} {w : World} {Q : Exit → Act → World → Prop} (hg : o.guard = none) (x : Operand) (ho : o.op = .buildSlice 53 1 #[(0, x)]) (r : Rep) (hx : a.eval x = .agg r.cs)
    (h : wpList Tryz.prog ops Q rest (a.put o.dst (.slice (some ⟨w.heap.size, 0, none⟩) 1 1)) (w.alloc (.cells r.cs 34))) : wpList Tryz.prog ops Q (o :: rest) a w := by
  obtain ⟨ie, hi, h0, h1, h2⟩ := info_parts infoR
  refine wpList_buildSlice hg 53 34 1 _ ho r.cs ie (.agg z8) Tryz.underlying53 hi h0 (by rw [h1]; decide) (by rw [h1]; decide) ?_ h
  rw [h1]
  simp only [List.map_toArray, List.map_cons, List.map_nil, hx]
  exact fill_one r
theorem wpList_rep5 {ops : Array Oper} {rest : List Oper} {o : Oper} {a : Act} {w : World} {Q : Exit → Act → World → Prop} (hg : o.guard = none) (x0 x1 x2 x3 x4 : Operand) (ho : o.op = .buildSlice 53 5 #[(0, x0), (1, x1), (2, x2), (3, x3), (4, x4)]) (r1 r2 : Rep) (e0 : a.eval x0 = .agg r1.cs) (e1 : a.eval x1 = .agg r1.cs) (e2 : a.eval x2 = .agg r2.cs) (e3 : a.eval x3 = .agg r1.cs) (e4 : a.eval x4 = .agg r2.cs)
    (h : wpList Tryz.prog ops Q rest (a.put o.dst (.slice (some ⟨w.heap.size, 0, none⟩) 5 5)) (w.alloc (.cells (five r1 r2).toArray 34))) : wpList Tryz.prog ops Q (o :: rest) a w := by
  obtain ⟨ie, hi, h0, h1, h2⟩ := info_parts infoR
  refine wpList_buildSlice hg 53 34 5 _ ho (five r1 r2).toArray ie (.agg z8) Tryz.underlying53 hi h0 (by rw [h1]; decide) (by rw [h1]; decide) ?_ h
  rw [h1]
  simp only [List.map_toArray, List.map_cons, List.map_nil, e0, e1, e2, e3, e4]
  exact fill_five r1 r2
theorem Lst.turnO {w w' : World} {B : Nat} {p : Option Addr} {L : List Int} {P : Nat → Prop} (h : Lst w B p L) (hB : B ≤ w.heap.size) (ho : Only P w w') (hp : ∀ b, b < B → ¬ P b) : Lst w' B p L := fun j hj => by
  obtain ⟨g, o, e, hg, hc⟩ := h j hj
  exact ⟨g, o, e, hg, (World.cell?_of_block (a := ⟨g, o + j, none⟩) (ho.2 g (by omega) (hp g hg))).trans hc⟩
/-- what stands when the law begins to read: boxes, texts, wants; all below T0 -/
structure W5 (X : World) (T0 : Nat) (k : Int) (h1 h2 gt gw : Nat) (r1 r2 : Rep) (V1 P1 V2 P2 : List Int) (x y : ByteArray) : Prop where
  ge : T0 ≤ X.heap.size
  lt : h1 < T0 ∧ h2 < T0 ∧ gt < T0 ∧ gw < T0
  b1 : Blk X h1 r1.cs 34
  b2 : Blk X h2 r2.cs 34
  bt : Blk X gt #[.string x, .string x, .string y, .string x, .string y] 9
  bw : Blk X gw (five r1 r2).toArray 34
  v1 : Lst X T0 r1.vp V1
  p1 : Lst X T0 r1.pp P1
  v2 : Lst X T0 r2.vp V2
  p2 : Lst X T0 r2.pp P2
theorem W5.turn {X W : World} {T0 : Nat} {k : Int} {h1 h2 gt gw : Nat} {r1 r2 : Rep} {V1 P1 V2 P2 : List Int} {x y : ByteArray} {P : Nat → Prop} (h : W5 X T0 k h1 h2 gt gw r1 r2 V1 P1 V2 P2 x y) (ho : Only P X W) (hp : ∀ b, b < T0 → ¬ P b) : W5 W T0 k h1 h2 gt gw r1 r2 V1 P1 V2 P2 x y :=
  ⟨Nat.le_trans h.ge ho.size, h.lt, h.b1.only ho (hp _ h.lt.1), h.b2.only ho (hp _ h.lt.2.1), h.bt.only ho (hp _ h.lt.2.2.1), h.bw.only ho (hp _ h.lt.2.2.2), h.v1.turnO h.ge ho hp, h.p1.turnO h.ge ho hp, h.v2.turnO h.ge ho hp, h.p2.turnO h.ge ho hp⟩
theorem W5.below {X W : World} {T0 : Nat} {k : Int} {h1 h2 gt gw : Nat} {r1 r2 : Rep} {V1 P1 V2 P2 : List Int} {x y : ByteArray} {B : Nat} (h : W5 X T0 k h1 h2 gt gw r1 r2 V1 P1 V2 P2 x y) (hb : Below B X W) (hB : X.heap.size ≤ B) : W5 W T0 k h1 h2 gt gw r1 r2 V1 P1 V2 P2 x y := h.turn (Only.of_below (P := fun _ => False) (hb.mono hB)) (fun _ _ q => q)
theorem RM.turnO {st : Int} {w w' : World} {P : Nat → Prop} {N : Nat} {r : Rep} {a : PR} (h : RM st N r a w) (ho : Only P w w') (hp : ∀ b, N ≤ b → r.under (b + 1) ∨ True → ((Value.slice r.vp r.vm r.vc).ownBlock = some b ∨ (Value.slice r.pp r.pm r.pc).ownBlock = some b) → ¬ P b) : RM st N r a w' :=
  ⟨h.st, h.qu, h.ch, h.no, h.wr, h.da, ⟨h.v.1, own_onlyW h.v.2 ho (fun b hb => hp b (h.v.2.lt b hb).1 (.inr trivial) (.inl hb))⟩, ⟨h.p.1, own_onlyW h.p.2 ho (fun b hb => hp b (h.p.2.lt b hb).1 (.inr trivial) (.inr hb))⟩, h.ne⟩
/-- the cells of a row of replies -/
theorem own_rangeR {w : World} {base n c : Nat} {p : Option Addr} {xs : List Value} (h : w.ownsRow base 34 8 (.slice p n c) n xs) (j : Nat) (r : Rep) (hj : j < n) (hr : ∀ i, i < 8 → xs[8 * j + i]? = r.cl[i]?) : ∃ g, p = some ⟨g, 0, none⟩ ∧ w.rangeAt g (8 * j) r.cl ∧ base ≤ g ∧ g < w.heap.size := by
  rcases h.2 with ⟨h1, h0⟩ | ⟨g, cap, cur, h1, hb, hg, hn, hc, hs, hx⟩
  · omega
  · have e0 : p = some ⟨g, 0, none⟩ := by injection h1
    have hB : Blk w g cur 34 := hg
    refine ⟨g, e0, fun i u hu => ?_, hb, hB.lt⟩
    have hi : i < 8 := by
      have := (List.getElem?_eq_some_iff.1 hu).1
      simpa [Rep.cl] using this
    rw [hB.cell, ← hu, ← hr i hi, ← hx, List.getElem?_take, if_pos (by omega)]
    simp
theorem ali_of {r q : Rep} {V Pl : List Int} {w : World} {st : Int} {N T0 : Nat} (hM : RM st N r (prOf q V Pl) w) (hs : q.st = st) (hv : V.length = q.vm) (hp : Pl.length = q.pm) (h8 : q.vm ≤ 8 ∧ q.pm ≤ 8) (hT : T0 ≤ w.heap.size) (h1 : Lst w T0 q.vp V) (h2 : Lst w T0 q.pp Pl) : Ali r q w V Pl :=
  ⟨hM.st.trans hs.symm, hM.qu, hM.ch, hM.no, hM.wr, hM.da, ⟨hM.v.1, hM.v.lst⟩, ⟨hv.symm, h1.mono hT⟩, ⟨hM.p.1, hM.p.lst⟩, ⟨hp.symm, h2.mono hT⟩, by omega⟩
end Go.Proofs.YtclgkgaobjcifaaGreatDoor

namespace Go.Proofs.YtclgkgaobjcifaaGreatDoor
open Go.RowKit
set_option maxRecDepth 100000
/-- append([]int{a, b}, l...) -/
theorem wpList_app2 {ops : Array Oper} {rest : List Oper} {o : Oper} {act : Act} {w : World} {Q : Exit → Act → World → Prop} (hgd : o.guard = none) (s x : Operand) (ho : o.op = .call { callee := .builtin .append, args := #[s, x], argTypes := #[22, 22] })
    (g : Nat) (a b : Int) (hs : act.eval s = .slice (some ⟨g, 0, none⟩) 2 2) (hB : Blk w g #[.int .i64 a, .int .i64 b] 3) (p : Option Addr) (n c : Nat) (hx : act.eval x = .slice p n c) (L : List Int) (hn : L.length = n) (hL : Lst w w.heap.size p L) (hn4 : n ≤ 17592186044400) (N : Nat) (hN : n + 2 = N) (hz : n = 0 → c = c)
    (h : ∀ p' c' w', Lst w' w'.heap.size p' (a :: b :: L) → Below g w w' → w.heap.size ≤ w'.heap.size → wpList Tryz.prog ops Q rest (act.put o.dst (.slice p' N c')) w') : wpList Tryz.prog ops Q (o :: rest) act w := by
  obtain ⟨i0, hi, hx0, hx1, hx2⟩ := info_parts info3w
  have hgl := hB.lt
  by_cases h0 : n = 0
  · subst h0
    have hL0 : L = [] := List.length_eq_zero_iff.1 hn
    subst hL0
    refine wpList_plain hgd fun K hK => ?_
    have hr : (Builtin.append_ #[22, 22] o.type #[.slice (some ⟨g, 0, none⟩) 2 2, .slice p 0 c]).run Tryz.prog w = .ok (.slice (some ⟨g, 0, none⟩) 2 2) w := by
      refine run_append_nothing w _ _ _ 3 i0 Tryz.underlying22 hi _ 2 2 (Nat.le_refl _) _ ?_
      cases p with
      | none => exact Src.ofNil w Tryz.underlying22 c
      | some ad => exact Src.ofSlice w Tryz.underlying22 ad 0 c [] (by simp) (fun j u hu => by simp at hu) (by simp)
    unfold Oper.wp execOp
    simp only [ho, resolve, invoke, builtin, Sem.run_bind, Sem.run_pure, Result.andThen_ok, List.map_toArray, List.map_cons, List.map_nil, hs, hx, hr]
    subst hN
    refine hK _ _ (h (some ⟨g, 0, none⟩) 2 w (fun j hj => ⟨g, 0, rfl, hgl, ?_⟩) (Below.refl _ _) (Nat.le_refl _))
    rw [hB.cell]
    have hj2 : j < 2 := by simpa using hj
    match j, hj2 with
    | 0, _ => rfl
    | 1, _ => rfl
  · obtain ⟨q, o', e1, hq, _⟩ := hL 0 (by omega)
    subst e1
    refine wpList_append_lies w hgd s x 22 ho g 3 i0 (.int .i64 0) 1 8 Tryz.underlying22 hi hx0 hx1 hx2 rfl (by decide) (.slice (some ⟨g, 0, none⟩) 2 2) 2 [.int .i64 a, .int .i64 b] hs ⟨rfl, .inr ⟨g, 2, _, rfl, Nat.le_refl _, hB, by first | omega | (unfold maxLen; omega), by first | omega | (unfold maxLen; omega), rfl, rfl⟩⟩ ⟨q, o', none⟩ n c (L.map (Value.int .i64)) hx (by simp [hn]) (fun j u hu => ?_) (by simp [Value.oneCell']) (by omega) (by unfold maxLen; omega) (by omega) (by omega) _ rfl ?_
    · have hj : j < L.length := by simpa using (List.getElem?_eq_some_iff.1 hu).1
      obtain ⟨q2, o2, e2, _, c2⟩ := hL j hj
      have e3 := Option.some.inj e2
      injection e3 with e4 e5
      subst e4 e5
      rw [Addr.add_mid, c2, ← hu, List.getElem?_map, List.getElem?_eq_getElem hj, List.getD_eq_getElem?_getD, List.getElem?_eq_getElem hj]
      rfl
    · intro g1 c1 w' ho1 hg1 _ hlt
      have hO := grown_onlyW hg1
      rw [show 2 + n = N by omega] at ho1 ⊢
      refine h _ c1 w' (own_lstN (N := g) (n := N) (c := c1) (by simp; omega) (by simpa using ho1)) (hO.below (by omega) (fun k hk q => ?_)) hO.size
      have : g = k := Option.some.inj q
      omega
/-- a reply and what its lists say -/
structure Rp where
  r : Rep
  V : List Int
  Pl : List Int
def pk (A B : Rp) (i : Nat) : Rp := if i = 2 ∨ i = 4 then B else A
def Rp.pr (a : Rp) : PR := prOf a.r a.V a.Pl
def Rp.tx (a : Rp) (k : Nat) : ByteArray := encF (k : Int) a.r a.V a.Pl
def Rep.has (q : Rep) (b : Nat) : Prop := (Value.slice q.vp q.vm q.vc).ownBlock = some b ∨ (Value.slice q.pp q.pm q.pc).ownBlock = some b
/-- the replies that were read: in a row; each with lists of its own -/
structure Gt (w : World) (T0 i0 : Nat) (A B : Rp) (R : List Rep) (N : Nat → Nat) (v : Value) : Prop where
  t0 : T0 ≤ N 0
  mono : ∀ i, i < R.length → N i ≤ N (i + 1)
  top : N R.length ≤ w.heap.size
  rm : ∀ i q, i0 ≤ i → R[i]? = some q → RM (pk A B i).r.st (N i) q (pk A B i).pr w ∧ q.under (N (i + 1))
  row : w.ownsRow T0 34 8 v R.length (R.flatMap Rep.cl)
  ap : ∀ b, v.ownBlock = some b → ∀ q ∈ R, ¬ q.has b
theorem RM.hasLt {st : Int} {N : Nat} {r : Rep} {a : PR} {w : World} (h : RM st N r a w) {b : Nat} (hb : r.has b) : N ≤ b ∧ b < w.heap.size := by
  rcases hb with q | q
  · exact h.v.2.lt b q
  · exact h.p.2.lt b q
theorem Gt.only {w w' : World} {T0 i0 : Nat} {A B : Rp} {R : List Rep} {N : Nat → Nat} {v : Value} {P : Nat → Prop} (h : Gt w T0 i0 A B R N v) (ho : Only P w w') (i1 : Nat) (hi : i0 ≤ i1) (hv : ∀ b, v.ownBlock = some b → ¬ P b) (hq : ∀ i q, i1 ≤ i → R[i]? = some q → ∀ b, q.has b → ¬ P b) : Gt w' T0 i1 A B R N v :=
  ⟨h.t0, h.mono, Nat.le_trans h.top ho.size, fun i q hi1 he => ⟨(h.rm i q (by omega) he).1.turnO ho (fun b _ _ hb => hq i q hi1 he b hb), (h.rm i q (by omega) he).2⟩, own_onlyW h.row ho hv, h.ap⟩
theorem Gt.below {w w' : World} {T0 i0 : Nat} {A B : Rp} {R : List Rep} {N : Nat → Nat} {v : Value} {M : Nat} (h : Gt w T0 i0 A B R N v) (hb : Below M w w') (hM : w.heap.size ≤ M) : Gt w' T0 i0 A B R N v :=
  h.only (Only.of_below (P := fun _ => False) (hb.mono hM)) i0 (Nat.le_refl _) (fun _ _ q => q) (fun _ _ _ _ _ _ q => q)
theorem Gt.nil (w : World) (A B : Rp) : Gt w w.heap.size 0 A B [] (fun _ => w.heap.size) (.slice none 0 0) :=
  ⟨Nat.le_refl _, fun i hi => absurd hi (by simp), Nat.le_refl _, fun i q _ he => absurd he (by simp), World.ownsRow_nil _ _ _ _, fun b hb => by cases hb⟩
theorem Gt.step {w w1 w3 y : World} {T0 : Nat} {A B : Rp} {R : List Rep} {N : Nat → Nat} {v : Value} (h : Gt w T0 0 A B R N v) {q : Rep} (hM : RM (pk A B R.length).r.st w.heap.size q (pk A B R.length).pr w1) (hb : Below w.heap.size w w1) (hb3 : Below w1.heap.size w1 w3) {g1 c1 : Nat} (ho : y.ownsRow T0 34 8 (.slice (some ⟨g1, 0, none⟩) (R.length + 1) c1) (R.length + 1) (R.flatMap Rep.cl ++ q.cl)) (hg : w3.grownBy y v.ownBlock) (hor : v.ownBlock = some g1 ∨ g1 = w3.heap.size) :
    Gt y T0 0 A B (R ++ [q]) (fun i => if i ≤ R.length then N i else w1.heap.size) (.slice (some ⟨g1, 0, none⟩) (R.length + 1) c1) := by
  have hO := grown_onlyW hg
  have s1 := hb.size
  have s3 := hb3.size
  have sy := hO.size
  have ht := h.top
  have hw : Only (fun k => v.ownBlock = some k) w y := (Only.of_below (P := fun k => v.ownBlock = some k) (hb.trans (hb3.mono s1))).trans hO (fun k _ q => q)
  have hold : ∀ i q', R[i]? = some q' → RM (pk A B i).r.st (N i) q' (pk A B i).pr w ∧ q'.under (N (i + 1)) := fun i q' he => h.rm i q' (Nat.zero_le _) he
  refine ⟨by rw [if_pos (Nat.zero_le _)]; exact h.t0, fun i hi => ?_, by rw [List.length_append, List.length_singleton, if_neg (by omega)]; omega, fun i q' _ he => ?_, ?_, fun b hb' q' hq' hh => ?_⟩
  · rw [List.length_append] at hi
    have hi' : i < R.length + 1 := by simpa using hi
    by_cases e : i < R.length
    · rw [if_pos (by omega), if_pos (by omega)]
      exact h.mono i e
    · obtain rfl : i = R.length := by omega
      rw [if_pos (Nat.le_refl _), if_neg (by omega)]
      omega
  · by_cases e : i < R.length
    · rw [List.getElem?_append_left e] at he
      rw [if_pos (by omega), if_pos (by omega)]
      obtain ⟨a1, a2⟩ := hold i q' he
      exact ⟨a1.turnO hw (fun b _ _ hb2 q => h.ap b q q' (List.mem_of_getElem? he) hb2), a2⟩
    · rw [List.getElem?_append_right (by omega)] at he
      have hil : i - R.length < 1 := by simpa using (List.getElem?_eq_some_iff.1 he).1
      obtain rfl : i = R.length := by omega
      rw [Nat.sub_self] at he
      obtain rfl : q = q' := by simpa using he
      rw [if_pos (Nat.le_refl _), if_neg (by omega)]
      refine ⟨((hM.below hb3 (Nat.le_refl _)).turnO hO (fun b hb1 _ hb2 q => ?_)).base (by omega), hM.lts (Nat.le_refl _)⟩
      have := (h.row.lt b q).2
      omega
  · rw [List.length_append, List.flatMap_append]
    simpa using ho
  · have hbg : g1 = b := Option.some.inj hb'
    subst hbg
    rcases List.mem_append.1 hq' with q | q
    · rcases hor with t | t
      · exact h.ap g1 t q' q hh
      · obtain ⟨i, hi⟩ := List.mem_iff_getElem?.1 q
        have := ((hold i q' hi).1.hasLt hh).2
        omega
    · obtain rfl := List.mem_singleton.1 q
      obtain ⟨t1, t2⟩ := hM.hasLt hh
      rcases hor with t | t
      · have := (h.row.lt g1 t).2
        omega
      · omega
theorem flat_get : ∀ (R : List Rep) (j : Nat) (q : Rep), R[j]? = some q → ∀ i, i < 8 → (R.flatMap Rep.cl)[8 * j + i]? = q.cl[i]?
  | [], j, q, h, i, hi => by simp at h
  | r :: R, 0, q, h, i, hi => by
    obtain rfl : r = q := by simpa using h
    rw [List.flatMap_cons, List.getElem?_append_left (by simp [Rep.cl]; omega)]
    simp
  | r :: R, j + 1, q, h, i, hi => by
    rw [List.flatMap_cons, List.getElem?_append_right (by simp [Rep.cl]; omega)]
    have := flat_get R j q (by simpa using h) i hi
    rw [← this]
    congr 1
    simp [Rep.cl]
    omega
theorem five_flat (r1 r2 : Rep) : five r1 r2 = [r1, r1, r2, r1, r2].flatMap Rep.cl := by simp [five, List.flatMap]
theorem Gt.at_ {w : World} {T0 i0 : Nat} {A B : Rp} {R : List Rep} {N : Nat → Nat} {p : Option Addr} {n c : Nat} (h : Gt w T0 i0 A B R N (.slice p n c)) (hn : R.length = n) (j : Nat) (q : Rep) (hq : R[j]? = some q) : ∃ g, p = some ⟨g, 0, none⟩ ∧ w.rangeAt g (j * 8) q.cl ∧ T0 ≤ g ∧ g < w.heap.size := by
  have hj : j < n := by rw [← hn]; exact (List.getElem?_eq_some_iff.1 hq).1
  have h1 := h.row
  rw [hn] at h1
  obtain ⟨g, e1, e2, e3⟩ := own_rangeR h1 j q hj (fun i hi => flat_get R j q hq i hi)
  rw [Nat.mul_comm] at e2
  exact ⟨g, e1, e2, e3⟩
theorem five_range {w : World} {gw : Nat} {A B : Rp} (h : Blk w gw (five A.r B.r).toArray 34) (j : Nat) (hj : j < 5) : w.rangeAt gw (j * 8) (pk A B j).r.cl := fun i u hu => by
  have hi : i < 8 := by
    have := (List.getElem?_eq_some_iff.1 hu).1
    simpa [Rep.cl] using this
  have e : [A.r, A.r, B.r, A.r, B.r][j]? = some (pk A B j).r := by
    match j, hj with
    | 0, _ => rfl
    | 1, _ => rfl
    | 2, _ => rfl
    | 3, _ => rfl
    | 4, _ => rfl
  rw [h.cell, ← hu, ← flat_get _ j _ e i hi, five_flat, Nat.mul_comm]
  simp
theorem text_cell {w : World} {gt : Nat} {A B : Rp} {k : Nat} (h : Blk w gt #[.string (A.tx k), .string (A.tx k), .string (B.tx k), .string (A.tx k), .string (B.tx k)] 9) (j : Nat) (hj : j < 5) : w.cell? ⟨gt, j, none⟩ = some (.string ((pk A B j).tx k)) := by
  rw [h.cell]
  match j, hj with
  | 0, _ => rfl
  | 1, _ => rfl
  | 2, _ => rfl
  | 3, _ => rfl
  | 4, _ => rfl
/-- both replies may be -/
def GdP (k : Nat) (A : Rp) : Prop := k ≤ 12 ∧ (0 ≤ A.r.st ∧ A.r.st ≤ 13) ∧ lyB (k : Int) A.r A.V A.Pl = true ∧ A.V.length = A.r.vm ∧ A.Pl.length = A.r.pm ∧ A.r.vm ≤ 8 ∧ A.r.pm ≤ 8
theorem GoodP.gd {k : Nat} (hk : k ≤ 12) {r : Rep} {V Pl : List Int} {w : World} (h : GoodP (k : Int) r V Pl w) : GdP k ⟨r, V, Pl⟩ := ⟨hk, h.st, h.ok, h.vm, h.pm, h.m8.1, h.m8.2⟩
theorem GdP.pk {k : Nat} {A B : Rp} (hA : GdP k A) (hB : GdP k B) (j : Nat) : GdP k (pk A B j) := by
  unfold Go.Proofs.YtclgkgaobjcifaaGreatDoor.pk
  split
  · exact hB
  · exact hA
/-- DecodeReply of such a frame -/
theorem dec_gd (k : Nat) (A : Rp) (h : GdP k A) (W : World) (hE : ETy W) : Calls Tryz.prog 16 #[.int .i64 (k : Int), .string (A.tx k)] W fun e w' => ∃ q : Rep, e = .returned (.tuple #[.agg q.cs, .int .i64 0]) ∧ RM A.r.st W.heap.size q A.pr w' ∧ Below W.heap.size W w' := by
  obtain ⟨hk, h1, h2, h3, h4, h5⟩ := h
  have hey := eyL_form k A.r A.V A.Pl h2
  have hyn := frm_nums (eyL (k : Int) A.r A.V A.Pl) hey.2 ((k : Int) :: eyL (k : Int) A.r A.V A.Pl)
  have hys := frm_size (eyL (k : Int) A.r A.V A.Pl) ((k : Int) :: eyL (k : Int) A.r A.V A.Pl)
  have hgo := rep_good k hk A.r A.V A.Pl h1 h3 h4 h2 _ hyn
  have hsP := szP_le (k : Int)
  exact decodeReply_good k hk _ (by rw [hys, hey.1]; omega) W hE hgo.1 A.r.st hgo.2.1 h1 (prOf A.r A.V A.Pl) hgo.2.2.1 hgo.2.2.2
theorem ali_gd {k : Nat} {A : Rp} (h : GdP k A) {q : Rep} {w : World} {N T0 : Nat} (hM : RM A.r.st N q A.pr w) (hT : T0 ≤ w.heap.size) (h1 : Lst w T0 A.r.vp A.V) (h2 : Lst w T0 A.r.pp A.Pl) : Ali q A.r w A.V A.Pl :=
  ali_of hM rfl h.2.2.2.1 h.2.2.2.2.1 ⟨h.2.2.2.2.2.1, h.2.2.2.2.2.2⟩ hT h1 h2
theorem W5.lst {X : World} {T0 : Nat} {k : Int} {h1 h2 gt gw : Nat} {A B : Rp} {x y : ByteArray} (h : W5 X T0 k h1 h2 gt gw A.r B.r A.V A.Pl B.V B.Pl x y) (j : Nat) : Lst X T0 (pk A B j).r.vp (pk A B j).V ∧ Lst X T0 (pk A B j).r.pp (pk A B j).Pl := by
  unfold pk
  split
  · exact ⟨h.v2, h.p2⟩
  · exact ⟨h.v1, h.p1⟩
end Go.Proofs.YtclgkgaobjcifaaGreatDoor

namespace Go.Proofs.YtclgkgaobjcifaaGreatDoor
open Go.RowKit
set_option maxRecDepth 100000
theorem Gt.ge {w : World} {T0 i0 : Nat} {A B : Rp} {R : List Rep} {N : Nat → Nat} {v : Value} (h : Gt w T0 i0 A B R N v) : ∀ i, i ≤ R.length → T0 ≤ N i
  | 0, _ => h.t0
  | i + 1, hi => Nat.le_trans (h.ge i (by omega)) (h.mono i (by omega))
theorem Gt.up {w : World} {T0 i0 : Nat} {A B : Rp} {R : List Rep} {N : Nat → Nat} {v : Value} (h : Gt w T0 i0 A B R N v) (i : Nat) : ∀ d, i + d ≤ R.length → N i ≤ N (i + d)
  | 0, _ => Nat.le_refl _
  | d + 1, hi => Nat.le_trans (h.up i d (by omega)) (h.mono (i + d) (by omega))
theorem Gt.le {w : World} {T0 i0 : Nat} {A B : Rp} {R : List Rep} {N : Nat → Nat} {v : Value} (h : Gt w T0 i0 A B R N v) {i j : Nat} (hij : i ≤ j) (hj : j ≤ R.length) : N i ≤ N j := by
  have := h.up i (j - i) (by omega)
  rwa [show i + (j - i) = j by omega] at this
theorem some_off {a b : Nat} (h : (some ⟨a, 0, none⟩ : Option Addr) = some ⟨b, 0, none⟩) : a = b := by
  have := Option.some.inj h
  injection this
theorem map_some (V : List Int) (j : Nat) (n : Nat) (hn : n = V.length) (hj : j < n) : ∃ u, (V.map (Value.int .i64))[j]? = some u := by
  rw [List.getElem?_map, List.getElem?_eq_getElem (by omega)]
  exact ⟨_, rfl⟩
/-- owns of a reply's volumes -/
theorem ownsV {wo : World} {N0 : Nat} {vl vm : Value} {E : List Vw} {T0 m k : Nat} {A B : Rp} {R : List Rep} {N : Nat → Nat} {v : Value} (hB : Bk wo N0 N0 vl vm E (E.map Vw.m) (fun b => b < N m)) (hE : E.length = 24 * m) (hm : m < 5) (hG : Gt wo T0 m A B R N v) (hN : N R.length ≤ N0) {q : Rep} (hq : R[m]? = some q) (hgd : GdP k (pk A B m)) :
    Calls Tryz.prog 22 #[.pointer (some ⟨N0, 0, none⟩), .slice q.vp q.vm q.vc] wo fun e w' => e = .returned (.tuple #[]) ∧ OwQ wo N0 N0 E (E.map Vw.m) (fun b => b < N m ∨ (Value.slice q.vp q.vm q.vc).ownBlock = some b) (Value.slice q.vp q.vm q.vc).ownBlock w' := by
  obtain ⟨hM, hU⟩ := hG.rm m q (Nat.le_refl _) hq
  have hml : m < R.length := (List.getElem?_eq_some_iff.1 hq).1
  have hv : q.vm = (pk A B m).V.length := hM.v.1
  have h8 : q.vm ≤ 8 := by have h1 := hgd.2.2.2.2.2.1; have h2 := hgd.2.2.2.1; omega
  refine owns12_any wo N0 N0 vl vm E (E.map Vw.m) (fun b => b < N m) _ hB (by simp) (by omega) (N m) q.vm q.vc q.vp _ hM.v.2 (fun j hj => map_some _ j _ hv hj) h8 (fun b hb => ?_) (fun g hg => .inl hg)
  have b1 := (hM.v.2.lt b hb).1
  have b2 := hU b (.inl hb)
  have b3 := hG.le (show m + 1 ≤ R.length by omega) (Nat.le_refl _)
  refine ⟨⟨.inr hb, by omega, fun e => ?_, fun e => ?_⟩, fun e he kk hkk g e1 q1 => ?_⟩
  · have := (hB.rl.lt b e).1
    omega
  · have := (hB.rm.lt b e).1
    omega
  · obtain ⟨g', f1, _, _, f4, _⟩ := hB.vw e he kk hkk
    rw [e1] at f1
    have := some_off f1
    rcases f4 with f4 | f4
    · omega
    · have f5 : g' < N m := f4
      omega
/-- .. of its places, behind its volumes -/
theorem ownsP {wo w1 : World} {N0 : Nat} {E : List Vw} {T0 m k : Nat} {A B : Rp} {R : List Rep} {N : Nat → Nat} {v : Value} (hE : E.length = 24 * m) (hEn : ∀ e ∈ E, e.n ≤ 100) (hm : m < 5) (hG : Gt wo T0 m A B R N v) (hN : N R.length ≤ N0) (hv0 : ∀ b, v.ownBlock = some b → b < N0) {q : Rep} (hq : R[m]? = some q) (hgd : GdP k (pk A B m)) (hQ : OwQ wo N0 N0 E (E.map Vw.m) (fun b => b < N m ∨ (Value.slice q.vp q.vm q.vc).ownBlock = some b) (Value.slice q.vp q.vm q.vc).ownBlock w1) :
    Gt w1 T0 (m + 1) A B R N v ∧ Only (fun b => T0 ≤ b) wo w1 ∧ Calls Tryz.prog 22 #[.pointer (some ⟨N0, 0, none⟩), .slice q.pp q.pm q.pc] w1 fun e w' => e = .returned (.tuple #[]) ∧ ∃ vl' vm' E', Bk w' N0 N0 vl' vm' E' (E'.map Vw.m) (fun b => b < N (m + 1)) ∧ E'.length = 24 * (m + 1) ∧ (∀ e ∈ E', e.n ≤ 100) ∧ Gt w' T0 (m + 1) A B R N v ∧ Only (fun b => T0 ≤ b) wo w' := by
  obtain ⟨vl1, vm1, E1, hB, hE1, hE1n, hO⟩ := hQ
  obtain ⟨hM, hU⟩ := hG.rm m q (Nat.le_refl _) hq
  have hml : m < R.length := (List.getElem?_eq_some_iff.1 hq).1
  have hv : q.pm = (pk A B m).Pl.length := hM.p.1
  have h8 : q.pm ≤ 8 := by have h1 := hgd.2.2.2.2.2.2; have h2 := hgd.2.2.2.2.1; omega
  have b3 := hG.le (show m + 1 ≤ R.length by omega) (Nat.le_refl _)
  have b4 := hG.mono m hml
  have b5 := hG.ge m (by omega)
  have hlater : ∀ i q', m + 1 ≤ i → R[i]? = some q' → ∀ b, q'.has b → N (m + 1) ≤ b ∧ b < N0 := fun i q' hi he b hb => by
    obtain ⟨c1, c2⟩ := hG.rm i q' (by omega) he
    have hil : i < R.length := (List.getElem?_eq_some_iff.1 he).1
    have c3 := (c1.hasLt hb).1
    have c4 := c2 b hb
    have c5 := hG.le hi (by omega)
    have c6 := hG.le (show i + 1 ≤ R.length by omega) (Nat.le_refl _)
    omega
  have hG1 : Gt w1 T0 (m + 1) A B R N v := hG.only hO (m + 1) (by omega) (fun b hb c => by
      rcases c with c | c
      · have := hv0 b hb
        omega
      · exact hG.ap b hb q (List.mem_of_getElem? hq) (.inl c)) (fun i q' hi he b hb c => by
      have := hlater i q' hi he b hb
      rcases c with c | c
      · omega
      · have := hU b (.inl c)
        omega)
  have hO1 : Only (fun b => T0 ≤ b) wo w1 := hO.mono (fun b _ c => by
    rcases c with c | c
    · have := hG.ge R.length (Nat.le_refl _)
      omega
    · have := (hM.v.2.lt b c).1
      omega)
  have hPr : w1.ownsRow (N m) 3 1 (.slice q.pp q.pm q.pc) q.pm ((pk A B m).Pl.map (Value.int .i64)) := own_onlyW hM.p.2 hO (fun b hb c => by
    rcases c with c | c
    · have := hU b (.inr hb)
      omega
    · exact hM.ne b c hb)
  refine ⟨hG1, hO1, ?_⟩
  have hM1 : (E.map Vw.m ++ E1.map Vw.m).length = (E ++ E1).length := by simp
  refine (owns12_any w1 N0 N0 vl1 vm1 (E ++ E1) _ _ (fun b => b < N (m + 1)) hB hM1 (by rw [List.length_append]; omega) (N m) q.pm q.pc q.pp _ hPr (fun j hj => map_some _ j _ hv hj) h8 (fun b hb => ?_) (fun g' hg' => ?_)).mono ?_
  · have b1 := (hM.p.2.lt b hb).1
    have b2 := hU b (.inr hb)
    refine ⟨⟨b2, by omega, fun e => ?_, fun e => ?_⟩, fun e he kk hkk g' e1 q1 => ?_⟩
    · have := (hB.rl.lt b e).1
      omega
    · have := (hB.rm.lt b e).1
      omega
    · obtain ⟨g2, f1, _, _, f4, _⟩ := hB.vw e he kk hkk
      rw [e1] at f1
      have := some_off f1
      rcases f4 with f4 | f4 | f4
      · omega
      · omega
      · exact hM.ne g2 f4 (by rw [← this, q1]; exact hb)
  · rcases hg' with c | c
    · show g' < N (m + 1)
      omega
    · exact hU g' (.inl c)
  · rintro e w2 ⟨rfl, vl2, vm2, E2, hB2, hE2, hE2n, hO2⟩
    refine ⟨rfl, vl2, vm2, (E ++ E1) ++ E2, ?_, ?_, ?_, ?_, ?_⟩
    · rw [List.map_append, List.map_append]
      exact hB2
    · rw [List.length_append, List.length_append]
      omega
    · intro e he
      rcases List.mem_append.1 he with c | c
      · rcases List.mem_append.1 c with c | c
        · exact hEn e c
        · exact hE1n e c
      · exact hE2n e c
    · exact hG1.only hO2 (m + 1) (Nat.le_refl _) (fun b hb c => by
        rcases c with c | c
        · have := hv0 b hb
          omega
        · exact hG.ap b hb q (List.mem_of_getElem? hq) (.inr c)) (fun i q' hi he b hb c => by
        have := hlater i q' hi he b hb
        rcases c with c | c
        · omega
        · have := hU b (.inr c)
          omega)
    · exact hO1.trans hO2 (fun b _ c => by
        rcases c with c | c
        · have := hG.ge R.length (Nat.le_refl _)
          omega
        · have := (hM.p.2.lt b c).1
          omega)
/-- an empty book -/
theorem Bk.nil (w : World) (Dn : Nat → Prop) : Bk (w.alloc (.cells #[.slice none 0 0, .slice none 0 0] 57)) w.heap.size w.heap.size (.slice none 0 0) (.slice none 0 0) [] [] Dn :=
  ⟨Blk.new w _ _, Nat.le_refl _, World.ownsRow_nil _ _ _ _, World.ownsRow_nil _ _ _ _, fun h => (by cases h), fun h => (by cases h), fun b h => (by cases h), fun e he => absurd he (by simp)⟩
end Go.Proofs.YtclgkgaobjcifaaGreatDoor

namespace Go.Proofs.YtclgkgaobjcifaaGreatDoor
open Go.RowKit
set_option maxRecDepth 100000
def dropSeq : Nat → Code → Code
  | 0, c => c
  | n + 1, .seq _ b => dropSeq n b
  | _, c => c
noncomputable def ownE : Code := dropSeq 16 ((Tryz.f6.body).getD .skip)
set_option maxHeartbeats 8000000 in
theorem ownE_walk (w : World) (g k b1 T0 N0 : Nat) (A : Rp) (tx : ByteArray) (wr : World) (vl vm : Value) (E : List Vw) (Dn : Nat → Prop) (hB : Bk wr N0 N0 vl vm E (E.map Vw.m) Dn) (hE : E.length ≤ 1000) (hEn : ∀ e ∈ E, e.n ≤ 100) (hbg : Below g w wr) (hg : g ≤ wr.heap.size) (hT : ETy wr) (hG : GdP k A) (htx : A.tx k = tx) (hb1 : Blk wr b1 A.r.cs 34) (hT0 : T0 ≤ wr.heap.size) (h1 : Lst wr T0 A.r.vp A.V) (h2 : Lst wr T0 A.r.pp A.Pl) (t0 t1 t2 t3 t4 t5 t6 t7 t8 t9 t10 t11 t12 t15 t17 t20 t22 t23 t24 t25 t26 t27 t28 t29 t31 t32 t33 t34 t35 t36 t37 t38 t39 t40 t41 t42 t43 t44 t45 t46 t47 t48 t49 t50 t51 t52 t53 t54 t55 t56 t57 t58 t59 t60 t61 t62 t63 t64 t65 t66 t67 t68 t69 t70 t71 t72 t73 t74 t75 t76 t77 t78 t79 t80 t81 t82 t83 t84 t85 t86 t87 t88 t89 t90 t91 t92 t93 t94 t95 t96 t97 t98 t99 t100 t101 t102 t103 t104 t105 t106 t107 t108 t109 t110 t111 t112 t113 t114 t115 t116 t117 t118 t119 t120 t121 t122 t123 t124 t125 t126 t127 t128 t129 t130 t131 t132 t133 t134 t135 t136 t137 t138 t139 t140 t141 t142 t143 t144 t145 t146 t147 t148 t149 t150 t151 t152 t153 t154 t155 t156 t157 t158 t159 t160 t161 t162 t163 t164 t165 t166 t167 t168 t169 t170 t171 t172 t173 t174 t175 t176 t177 t178 t179 t180 t181 t182 t183 t184 t185 t186 t187 t188 t189 t190 t191 t192 t193 t194 t195 t196 t197 : Value) :
    Code.wp Tryz.prog ownE (bodyPost Tryz.prog Tryz.f6 fun e w' => e = .returned (.bool true) ∧ Below g w w') ⟨#[t0, t1, t2, t3, t4, t5, t6, t7, t8, t9, t10, t11, t12, .bool true, .int .i64 (k : Int), t15, .pointer (some ⟨b1, 0, none⟩), t17, .string tx, .int .i64 0, t20, .int .i64 0, t22, t23, t24, t25, t26, t27, t28, t29, .pointer (some ⟨N0, 0, none⟩), t31, t32, t33, t34, t35, t36, t37, t38, t39, t40, t41, t42, t43, t44, t45, t46, t47, t48, t49, t50, t51, t52, t53, t54, t55, t56, t57, t58, t59, t60, t61, t62, t63, t64, t65, t66, t67, t68, t69, t70, t71, t72, t73, t74, t75, t76, t77, t78, t79, t80, t81, t82, t83, t84, t85, t86, t87, t88, t89, t90, t91, t92, t93, t94, t95, t96, t97, t98, t99, t100, t101, t102, t103, t104, t105, t106, t107, t108, t109, t110, t111, t112, t113, t114, t115, t116, t117, t118, t119, t120, t121, t122, t123, t124, t125, t126, t127, t128, t129, t130, t131, t132, t133, t134, t135, t136, t137, t138, t139, t140, t141, t142, t143, t144, t145, t146, t147, t148, t149, t150, t151, t152, t153, t154, t155, t156, t157, t158, t159, t160, t161, t162, t163, t164, t165, t166, t167, t168, t169, t170, t171, t172, t173, t174, t175, t176, t177, t178, t179, t180, t181, t182, t183, t184, t185, t186, t187, t188, t189, t190, t191, t192, t193, t194, t195, t196, t197], []⟩ wr := by
  conv => arg 2; whnf
  have HS := hide (still12_any wr N0 N0 vl vm E Dn hB (by omega) (fun e he => Nat.le_trans (hEn e he) (by omega)))
  have H0 := hide (And.intro hbg (And.intro hg (And.intro hT (And.intro hb1 (And.intro hT0 (And.intro h1 h2))))))
  have HG := hide (And.intro hG htx)
  clear hB hE hEn hbg hg hT hG htx hb1 hT0 h1 h2
  go_wp2_with fail
  refine (unhide HS).mono ?_
  rintro e w1 ⟨rfl, hw1⟩
  have H1 := hide (show Below g w w1 ∧ g ≤ w1.heap.size ∧ ETy w1 ∧ Blk w1 b1 A.r.cs 34 ∧ T0 ≤ w1.heap.size ∧ Lst w1 T0 A.r.vp A.V ∧ Lst w1 T0 A.r.pp A.Pl from by
    obtain ⟨a1, a2, a3, a4, a5, a6, a7⟩ := unhide H0
    have := hw1.size
    exact ⟨a1.trans (hw1.mono a2), by omega, a3.below hw1 a3.lt, a4.below hw1 a4.lt, by omega, a6.below (hw1.mono a5), a7.below (hw1.mono a5)⟩)
  have HD := hide (dec_gd k A (unhide HG).1 w1 (unhide H1).2.2.1)
  rw [(unhide HG).2] at HD
  clear hw1 H0 HS
  go_wp2_with fail
  refine (unhide HD).mono ?_
  rintro e w2 ⟨q, rfl, hM, hw2⟩
  have H2 := hide (show Below g w w2 ∧ g ≤ w2.heap.size ∧ True ∧ Blk w2 b1 A.r.cs 34 ∧ T0 ≤ w2.heap.size ∧ Lst w2 T0 A.r.vp A.V ∧ Lst w2 T0 A.r.pp A.Pl from by
    obtain ⟨a1, a2, a3, a4, a5, a6, a7⟩ := unhide H1
    have := hw2.size
    exact ⟨a1.trans (hw2.mono a2), by omega, trivial, a4.below hw2 a4.lt, by omega, a6.below (hw2.mono a5), a7.below (hw2.mono a5)⟩)
  obtain ⟨N1, N2, N3, N4⟩ := boxv w2 34 #[.int .i64 0, .int .i64 0, .int .i64 0, .slice none 0 0, .int .i64 0, .slice none 0 0, .string ⟨#[]⟩, .string ⟨#[]⟩] (q.cs) g w (unhide H2).1 (unhide H2).2.1
  obtain ⟨h3, hh3⟩ : ∃ h, w2.heap.size = h := ⟨_, rfl⟩
  obtain ⟨z3, hz3⟩ : ∃ Z, w2.alloc (.cells #[.int .i64 0, .int .i64 0, .int .i64 0, .slice none 0 0, .int .i64 0, .slice none 0 0, .string ⟨#[]⟩, .string ⟨#[]⟩] 34) = Z := ⟨_, rfl⟩
  rw [hz3, hh3] at N1 N2 N4
  rw [hz3] at N3
  have N3' : Below w2.heap.size w2 (z3.setRow h3 (q.cs)) := by rw [← hh3]; exact N3
  have HZ3 := hide N1
  obtain ⟨q3, hq3⟩ : ∃ Z, z3.setRow h3 (q.cs) = Z := ⟨_, rfl⟩
  rw [hq3] at N2 N3' N4
  have H3 := hide (show Below g w q3 ∧ g ≤ q3.heap.size ∧ Blk q3 h3 q.cs 34 ∧ Blk q3 b1 A.r.cs 34 ∧ Ali q A.r q3 A.V A.Pl from by
    obtain ⟨a1, a2, _, a4, a5, a6, a7⟩ := unhide H2
    have := N3'.size
    exact ⟨N4, by omega, N2, a4.below N3' a4.lt, ali_gd (unhide HG).1 (hM.below N3' (Nat.le_refl _)) (show T0 ≤ q3.heap.size by omega) (a6.below (N3'.mono a5)) (a7.below (N3'.mono a5))⟩)
  have HO3 := hide (Rep.one q)
  have HR3 := hide (show q3.rangeAt h3 0 q.cl from blk_range (unhide H3).2.2.1)
  have HR1 := hide (show q3.rangeAt b1 0 A.r.cl from blk_range (unhide H3).2.2.2.1)
  have HR3v := hide (show (z3.setRow h3 (q.cs)).rangeAt h3 0 q.cl from by rw [hq3]; exact unhide HR3)
  have HR1v := hide (show (z3.setRow h3 (q.cs)).rangeAt b1 0 A.r.cl from by rw [hq3]; exact unhide HR1)
  have HA := hide (alike12_eq q A.r q3 A.V A.Pl (unhide H3).2.2.2.2)
  clear N1 N2 N3 N3' N4 hM hw2 H1 H2 HD HG
  go_wp2_with (first | refine wpList_store_row rfl 34 (.tmp 35) (.tmp 174) rfl h3 (q.cs) rfl rfl 34 #[.int .i64 0, .int .i64 0, .int .i64 0, .slice none 0 0, .int .i64 0, .slice none 0 0, .string ⟨#[]⟩, .string ⟨#[]⟩] (unhide HZ3) size_rep rfl (unhide HO3) ?_ | refine wpList_load_mid rfl 34 (.tmp 35) rfl h3 0 rfl q.cl _ (unhide HR3) Tryz.underlying34 rfl size_rep ?_ | refine wpList_load_mid rfl 34 (.tmp 16) rfl b1 0 rfl A.r.cl _ (unhide HR1) Tryz.underlying34 rfl size_rep ?_ | refine wpList_load_mid rfl 34 (.tmp 35) rfl h3 0 rfl q.cl _ (unhide HR3v) Tryz.underlying34 rfl size_rep ?_ | refine wpList_load_mid rfl 34 (.tmp 16) rfl b1 0 rfl A.r.cl _ (unhide HR1v) Tryz.underlying34 rfl size_rep ?_)
  (try rw [hq3])
  refine (unhide HA).mono ?_
  rintro e v9 ⟨rfl, hv9⟩
  have HF := hide (show Below g w v9 from (unhide H3).1.trans (hv9.mono (unhide H3).2.1))
  clear hv9 HA H3 HR1 HR3 HR1v HR3v HZ3 HO3
  go_wp2_with fail
  go_ret
  exact ⟨rfl, unhide HF⟩
end Go.Proofs.YtclgkgaobjcifaaGreatDoor
