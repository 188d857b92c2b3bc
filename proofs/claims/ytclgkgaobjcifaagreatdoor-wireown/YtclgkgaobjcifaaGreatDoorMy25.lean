import Derived.Test.YtclgkgaobjcifaaGreatDoorMy24
import Derived.Deep.DeepAppendRoom
namespace Go.Proofs.YtclgkgaobjcifaaGreatDoor
open Go.RowKit
set_option maxRecDepth 100000
/-- what EncodeReply answers -/
def encG (kd : Int) (r : Rep) (V Pl : List Int) : Bool := decide (0 ≤ r.st ∧ r.st ≤ 13) && lyB kd r V Pl
def encF (kd : Int) (r : Rep) (V Pl : List Int) : ByteArray := strOfNums (eyL kd r V Pl) ++ strOfNums (le4 (chkN (kd :: eyL kd r V Pl)))
def encS (kd : Int) (r : Rep) (V Pl : List Int) : ByteArray := if 0 ≤ kd ∧ kd ≤ 12 then (if encG kd r V Pl = true then encF kd r V Pl else ⟨#[]⟩) else ⟨#[]⟩
def encE (kd : Int) (r : Rep) (V Pl : List Int) : Int := if 0 ≤ kd ∧ kd ≤ 12 then (if encG kd r V Pl = true then 0 else 122) else 120
theorem encP_any (kd : Int) (r : Rep) (V Pl : List Int) (hvm : V.length = r.vm) (hpm : Pl.length = r.pm) (hm9 : r.vm ≤ 9000000000000000000 ∧ r.pm ≤ 9000000000000000000) (w : World) (hLV : Lst w w.heap.size r.vp V) (hLP : Lst w w.heap.size r.pp Pl) : Calls Tryz.prog 12 #[.int .i64 kd, .agg r.cs] w fun e w' => e = .returned (.tuple #[.string (encS kd r V Pl), .int .i64 (encE kd r V Pl)]) ∧ Below w.heap.size w w' := by
  unfold encS encE
  by_cases hk : 0 ≤ kd ∧ kd ≤ 12
  · rw [if_pos hk, if_pos hk]
    obtain ⟨k, rfl⟩ : ∃ k : Nat, kd = (k : Int) := ⟨kd.toNat, by omega⟩
    have hm : r.vm ≤ 9223372036854775807 ∧ r.pm ≤ 9223372036854775807 := by omega
    by_cases hs : 0 ≤ r.st ∧ r.st ≤ 13
    · by_cases hB : lyB (k : Int) r V Pl = true
      · have hg : encG (k : Int) r V Pl = true := by rw [encG, decide_eq_true hs, hB]; rfl
        rw [if_pos hg, if_pos hg]
        exact encodeReply_ok k (by omega) r V Pl hvm hpm hm hs hB w hLV hLP
      · have hg : ¬ encG (k : Int) r V Pl = true := by rw [encG, decide_eq_true hs, Bool.true_and]; exact hB
        rw [if_neg hg, if_neg hg]
        exact encodeReply_no k (by omega) r V Pl hvm hpm hm hs (by simpa using hB) w hLV hLP
    · have hg : ¬ encG (k : Int) r V Pl = true := by rw [encG, decide_eq_false hs, Bool.false_and]; decide
      rw [if_neg hg, if_neg hg]
      exact encodeReply_stat k (by omega) r hs w
  · rw [if_neg hk, if_neg hk]
    exact encodeReply_kind kd hk r w
theorem encR_any (kd : Int) (r : Rep) (V Pl : List Int) (hvm : V.length = r.vm) (hpm : Pl.length = r.pm) (hm9 : r.vm ≤ 9000000000000000000 ∧ r.pm ≤ 9000000000000000000) (w : World) (hLV : Lst w w.heap.size r.vp V) (hLP : Lst w w.heap.size r.pp Pl) : Calls Tryz.prog 19 #[.int .i64 kd, .agg r.cl.toArray] w fun e w' => e = .returned (.tuple #[.string (encS kd r V Pl), .int .i64 (encE kd r V Pl)]) ∧ Below w.heap.size w w' := by
  unfold encS encE
  by_cases hk : 0 ≤ kd ∧ kd ≤ 12
  · rw [if_pos hk, if_pos hk]
    obtain ⟨k, rfl⟩ : ∃ k : Nat, kd = (k : Int) := ⟨kd.toNat, by omega⟩
    by_cases hg : encG (k : Int) r V Pl = true
    · rw [if_pos hg, if_pos hg]
      have hg' := hg
      rw [encG, Bool.and_eq_true, decide_eq_true_eq] at hg'
      exact renc_ok k (by omega) r V Pl hvm hpm hm9 hg'.1 hg'.2 w hLV hLP
    · rw [if_neg hg, if_neg hg]
      exact renc_no k (by omega) r V Pl hvm hpm hm9 (Bool.eq_false_iff.2 hg) w hLV hLP
  · rw [if_neg hk, if_neg hk]
    exact renc_kind kd hk r w
end Go.Proofs.YtclgkgaobjcifaaGreatDoor

namespace Go.Proofs.YtclgkgaobjcifaaGreatDoor
open Go.RowKit
set_option maxRecDepth 100000
theorem owns_setW {w : World} {base : Nat} {e : TypeId} {k n : Nat} {v : Value} {xs : List Value} (h : w.ownsRow base e k v n xs) {g : Nat} (hv : v.ownBlock = some g) (j : Nat) (u : Value) : (w.setCell ⟨g, j, none⟩ u).ownsRow base e k v n (xs.set j u) := by
  refine ⟨by rw [List.length_set]; exact h.1, ?_⟩
  rcases h.2 with ⟨h1, h2⟩ | ⟨g', cap, cur, rfl, hb, hg, hn, hc, hs, hx⟩
  · rw [h1] at hv; cases hv
  · obtain rfl : g' = g := by simpa [Value.ownBlock] using hv
    refine .inr ⟨g', cap, cur.setIfInBounds j u, rfl, hb, Blk.set hg j u, hn, hc, by simpa using hs, ?_⟩
    rw [← hx]
    simp [List.take_set]
/-- a cell of a row of one's own -/
theorem own_cellW {w : World} {base : Nat} {e : TypeId} {n c : Nat} {p : Option Addr} {xs : List Value} (h : w.ownsRow base e 1 (.slice p n c) n xs) (j : Nat) (hj : j < n) : ∃ g, p = some ⟨g, 0, none⟩ ∧ w.cell? ⟨g, j, none⟩ = xs[j]? ∧ w.frozen? ⟨g, j, none⟩ = false ∧ base ≤ g ∧ g < w.heap.size := by
  rcases h.2 with ⟨h1, h0⟩ | ⟨g, cap, cur, h1, hb, hg, hn, hc, hs, hx⟩
  · omega
  · have e0 : p = some ⟨g, 0, none⟩ := by injection h1
    have hB : Blk w g cur e := hg
    refine ⟨g, e0, ?_, hB.frozen j, hb, hB.lt⟩
    rw [hB.cell, ← hx, List.getElem?_take, if_pos (by omega)]
    simp
/-- what a book holds: a list at each length that it had, its mark -/
structure Vw where
  p : Option Addr
  n : Nat
  c : Nat
  m : Int
def Vw.s (e : Vw) : Value := .slice e.p e.n e.c
/-- each of its cells holds the mark; where it lies -/
def Vok (w : World) (N0 ub : Nat) (vl vm : Value) (Dn : Nat → Prop) (e : Vw) : Prop := ∀ k, k < e.n → ∃ g, e.p = some ⟨g, 0, none⟩ ∧ w.cell? ⟨g, k, none⟩ = some (.int .i64 e.m) ∧ g < w.heap.size ∧ (N0 ≤ g ∨ Dn g) ∧ g ≠ ub ∧ vl.ownBlock ≠ some g ∧ vm.ownBlock ≠ some g
/-- the law's book: the lists, the marks -/
structure Bk (w : World) (N0 ub : Nat) (vl vm : Value) (E : List Vw) (M : List Int) (Dn : Nat → Prop) : Prop where
  blk : Blk w ub #[vl, vm] 57
  ge : N0 ≤ ub
  rl : w.ownsRow N0 22 1 vl E.length (E.map Vw.s)
  rm : w.ownsRow N0 3 1 vm M.length (M.map (Value.int .i64))
  nl : vl.ownBlock ≠ some ub
  nm : vm.ownBlock ≠ some ub
  nn : ∀ b, vl.ownBlock = some b → vm.ownBlock ≠ some b
  vw : ∀ e ∈ E, Vok w N0 ub vl vm Dn e
theorem Vok.turn {w w' : World} {N0 ub : Nat} {vl vm vl' vm' : Value} {Dn P : Nat → Prop} {e : Vw} (h : Vok w N0 ub vl vm Dn e) (ho : Only P w w') (hp : ∀ g, g < w.heap.size → g ≠ ub → vl.ownBlock ≠ some g → vm.ownBlock ≠ some g → ¬ P g ∧ vl'.ownBlock ≠ some g ∧ vm'.ownBlock ≠ some g) : Vok w' N0 ub vl' vm' Dn e := fun k hk => by
  obtain ⟨g, e1, e2, e3, e4, e5, e6, e7⟩ := h k hk
  obtain ⟨h1, h2, h3⟩ := hp g e3 e5 e6 e7
  exact ⟨g, e1, (World.cell?_of_block (a := ⟨g, k, none⟩) (ho.2 g e3 h1)).trans e2, Nat.lt_of_lt_of_le e3 ho.size, e4, e5, h2, h3⟩
theorem Bk.only {w w' : World} {N0 ub : Nat} {vl vm : Value} {E : List Vw} {M : List Int} {Dn P : Nat → Prop} (h : Bk w N0 ub vl vm E M Dn) (ho : Only P w w') (hu : ¬ P ub) (hl : ∀ b, vl.ownBlock = some b → ¬ P b) (hm : ∀ b, vm.ownBlock = some b → ¬ P b) (hv : ∀ e ∈ E, Vok w' N0 ub vl vm Dn e) : Bk w' N0 ub vl vm E M Dn :=
  ⟨h.blk.only ho hu, h.ge, own_onlyW h.rl ho hl, own_onlyW h.rm ho hm, h.nl, h.nm, h.nn, hv⟩
theorem Bk.below {w w' : World} {N0 ub B : Nat} {vl vm : Value} {E : List Vw} {M : List Int} {Dn : Nat → Prop} (h : Bk w N0 ub vl vm E M Dn) (hb : Below B w w') (hB : w.heap.size ≤ B) : Bk w' N0 ub vl vm E M Dn := by
  have ho : Only (fun _ => False) w w' := Only.of_below (hb.mono hB)
  exact h.only ho (fun q => q) (fun _ _ q => q) (fun _ _ q => q) (fun e he => (h.vw e he).turn ho (fun g _ _ h6 h7 => ⟨fun q => q, h6, h7⟩))
theorem Bk.mono {w : World} {N0 ub : Nat} {vl vm : Value} {E : List Vw} {M : List Int} {Dn Dn' : Nat → Prop} (h : Bk w N0 ub vl vm E M Dn) (hd : ∀ g, Dn g → Dn' g) : Bk w N0 ub vl vm E M Dn' :=
  ⟨h.blk, h.ge, h.rl, h.rm, h.nl, h.nm, h.nn, fun e he k hk => by
    obtain ⟨g, e1, e2, e3, e4, e5, e6, e7⟩ := h.vw e he k hk
    exact ⟨g, e1, e2, e3, e4.imp id (hd g), e5, e6, e7⟩⟩
theorem infoL : (Tryz.prog.info? 22).map (fun i => (i.zero, i.size, i.bytes)) = some (some (.slice none 0 0), 1, 24) := by kernel_rfl
theorem ownB (g n c : Nat) : (Value.slice (some ⟨g, 0, none⟩) n c).ownBlock = some g := rfl
/-- a list more in the book's row of lists -/
theorem Bk.pushL {w y z : World} {N0 ub : Nat} {vl vm : Value} {E : List Vw} {M : List Int} {Dn : Nat → Prop} {e : Vw} {g1 c1 : Nat} (h : Bk w N0 ub vl vm E M Dn) (hA : Below w.heap.size w z) (ho : y.ownsRow N0 22 1 (.slice (some ⟨g1, 0, none⟩) (E.length + 1) c1) (E.length + 1) (E.map Vw.s ++ [e.s])) (hg : z.grownBy y vl.ownBlock) (hor : vl.ownBlock = some g1 ∨ g1 = z.heap.size) (he : Vok w N0 ub vl vm Dn e) :
    y.frozen? ⟨ub, 0, none⟩ = false ∧ y.cell? ⟨ub, 0, none⟩ = some vl ∧ Bk (y.setCell ⟨ub, 0, none⟩ (.slice (some ⟨g1, 0, none⟩) (E.length + 1) c1)) N0 ub (.slice (some ⟨g1, 0, none⟩) (E.length + 1) c1) vm (E ++ [e]) M Dn ∧ Only (fun b => vl.ownBlock = some b ∨ b = ub) w (y.setCell ⟨ub, 0, none⟩ (.slice (some ⟨g1, 0, none⟩) (E.length + 1) c1)) := by
  have hO := grown_onlyW hg
  have b1 := (h.blk.below hA h.blk.lt).only hO (fun q => h.nl q)
  have hw1 : Only (fun b => vl.ownBlock = some b ∨ b = ub) w y := (Only.of_below (P := fun b => vl.ownBlock = some b ∨ b = ub) hA).trans hO (fun b _ q => .inl q)
  have hu := hw1.setCell ⟨ub, 0, none⟩ (.slice (some ⟨g1, 0, none⟩) (E.length + 1) c1) (fun _ => .inr rfl)
  have hub := h.blk.lt
  have hz := hA.size
  have h1 : g1 ≠ ub := by
    rcases hor with q | q
    · exact fun e => h.nl (by rw [q, e])
    · omega
  have h2 : ∀ g, g < w.heap.size → vl.ownBlock ≠ some g → g1 ≠ g := fun g hg1 hg2 e => by
    rcases hor with q | q
    · exact hg2 (by rw [q, e])
    · omega
  refine ⟨b1.frozen 0, b1.cell 0, ⟨b1.set 0 _, h.ge, ?_, own_onlyW h.rm hu (fun b hb q => ?_), ?_, h.nm, ?_, ?_⟩, hu⟩
  · rw [List.length_append, List.map_append]
    refine own_onlyW ho ((Only.refl (fun b => b = ub) y).setCell _ _ (fun _ => rfl)) (fun b hb q => ?_)
    rw [ownB] at hb
    exact h1 ((Option.some.inj hb).trans q)
  · rcases q with q | q
    · exact h.nn b q hb
    · exact h.nm (by rw [hb, q])
  · rw [ownB]
    exact fun q => h1 (Option.some.inj q)
  · intro b hb hm
    rw [ownB] at hb
    have hb' := Option.some.inj hb
    rcases hor with q | q
    · exact h.nn g1 q (by rw [hm, hb'])
    · have := (h.rm.lt b hm).2
      omega
  · intro e' he'
    have hv : Vok w N0 ub vl vm Dn e' := by
      rcases List.mem_append.1 he' with q | q
      · exact h.vw e' q
      · rw [List.mem_singleton.1 q]; exact he
    refine hv.turn hu (fun g q1 q2 q3 q4 => ⟨fun q => q.elim q3 q2, ?_, q4⟩)
    rw [ownB]
    exact fun q => h2 g q1 q3 (Option.some.inj q)
/-- a mark more -/
theorem Bk.pushM {w y z : World} {N0 ub : Nat} {vl vm : Value} {E : List Vw} {M : List Int} {Dn : Nat → Prop} {m : Int} {g1 c1 : Nat} (h : Bk w N0 ub vl vm E M Dn) (hA : Below w.heap.size w z) (ho : y.ownsRow N0 3 1 (.slice (some ⟨g1, 0, none⟩) (M.length + 1) c1) (M.length + 1) (M.map (Value.int .i64) ++ [.int .i64 m])) (hg : z.grownBy y vm.ownBlock) (hor : vm.ownBlock = some g1 ∨ g1 = z.heap.size) :
    y.frozen? ⟨ub, 1, none⟩ = false ∧ y.cell? ⟨ub, 1, none⟩ = some vm ∧ Bk (y.setCell ⟨ub, 1, none⟩ (.slice (some ⟨g1, 0, none⟩) (M.length + 1) c1)) N0 ub vl (.slice (some ⟨g1, 0, none⟩) (M.length + 1) c1) E (M ++ [m]) Dn ∧ Only (fun b => vm.ownBlock = some b ∨ b = ub) w (y.setCell ⟨ub, 1, none⟩ (.slice (some ⟨g1, 0, none⟩) (M.length + 1) c1)) := by
  have hO := grown_onlyW hg
  have b1 := (h.blk.below hA h.blk.lt).only hO (fun q => h.nm q)
  have hw1 : Only (fun b => vm.ownBlock = some b ∨ b = ub) w y := (Only.of_below (P := fun b => vm.ownBlock = some b ∨ b = ub) hA).trans hO (fun b _ q => .inl q)
  have hu := hw1.setCell ⟨ub, 1, none⟩ (.slice (some ⟨g1, 0, none⟩) (M.length + 1) c1) (fun _ => .inr rfl)
  have hub := h.blk.lt
  have hz := hA.size
  have h1 : g1 ≠ ub := by
    rcases hor with q | q
    · exact fun e => h.nm (by rw [q, e])
    · omega
  have h2 : ∀ g, g < w.heap.size → vm.ownBlock ≠ some g → g1 ≠ g := fun g hg1 hg2 e => by
    rcases hor with q | q
    · exact hg2 (by rw [q, e])
    · omega
  refine ⟨b1.frozen 1, b1.cell 1, ⟨b1.set 1 _, h.ge, own_onlyW h.rl hu (fun b hb q => ?_), ?_, h.nl, ?_, ?_, ?_⟩, hu⟩
  · rcases q with q | q
    · exact h.nn b hb q
    · exact h.nl (by rw [hb, q])
  · rw [List.length_append, List.map_append]
    refine own_onlyW ho ((Only.refl (fun b => b = ub) y).setCell _ _ (fun _ => rfl)) (fun b hb q => ?_)
    rw [ownB] at hb
    exact h1 ((Option.some.inj hb).trans q)
  · rw [ownB]
    exact fun q => h1 (Option.some.inj q)
  · intro b hb hm
    rw [ownB] at hm
    have hm' := Option.some.inj hm
    rcases hor with q | q
    · exact h.nn b hb (by rw [q, hm'])
    · have := (h.rl.lt b hb).2
      omega
  · intro e' he'
    refine (h.vw e' he').turn hu (fun g q1 q2 q3 q4 => ⟨fun q => q.elim q4 q2, q3, ?_⟩)
    rw [ownB]
    exact fun q => h2 g q1 q4 (Option.some.inj q)
/-- a list of which all cells hold the mark, beside the book -/
structure Lm (w : World) (N0 ub : Nat) (vl vm : Value) (E : List Vw) (Dn : Nat → Prop) (m : Int) (p : Option Addr) (n c : Nat) : Prop where
  row : w.ownsRow 0 3 1 (.slice p n c) n (List.replicate n (.int .i64 m))
  at_ : ∀ b, (Value.slice p n c).ownBlock = some b → (N0 ≤ b ∨ Dn b) ∧ b ≠ ub ∧ vl.ownBlock ≠ some b ∧ vm.ownBlock ≠ some b
  lv : ∀ e ∈ E, ∀ k, k < e.n → ∀ g, e.p = some ⟨g, 0, none⟩ → (Value.slice p n c).ownBlock = some g → e.m = m ∧ e.n ≤ n
theorem Lm.vok {w : World} {N0 ub : Nat} {vl vm : Value} {E : List Vw} {Dn : Nat → Prop} {m : Int} {p : Option Addr} {n c : Nat} (h : Lm w N0 ub vl vm E Dn m p n c) : Vok w N0 ub vl vm Dn ⟨p, n, c, m⟩ := fun k hk => by
  have hk' : k < n := hk
  obtain ⟨g, e1, e2, _, _, e5⟩ := own_cellW h.row k hk'
  have e6 := h.at_ g (by rw [e1]; rfl)
  refine ⟨g, e1, ?_, e5, e6⟩
  rw [e2, List.getElem?_replicate, if_pos hk']
theorem Lm.turn {w w' : World} {N0 ub : Nat} {vl vm vl' vm' : Value} {E E' : List Vw} {Dn P : Nat → Prop} {m : Int} {p : Option Addr} {n c : Nat} (h : Lm w N0 ub vl vm E Dn m p n c) (ho : Only P w w') (hp : ∀ b, b < w.heap.size → b ≠ ub → vl.ownBlock ≠ some b → vm.ownBlock ≠ some b → ¬ P b ∧ vl'.ownBlock ≠ some b ∧ vm'.ownBlock ≠ some b) (hE : ∀ e ∈ E', e ∈ E ∨ e = ⟨p, n, c, m⟩) : Lm w' N0 ub vl' vm' E' Dn m p n c := by
  have hq : ∀ b, (Value.slice p n c).ownBlock = some b → ¬ P b ∧ vl'.ownBlock ≠ some b ∧ vm'.ownBlock ≠ some b := fun b hb => by
    obtain ⟨_, q2, q3, q4⟩ := h.at_ b hb
    exact hp b (h.row.lt b hb).2 q2 q3 q4
  refine ⟨own_onlyW h.row ho (fun b hb => (hq b hb).1), fun b hb => ?_, fun e he k hk g hg hb => ?_⟩
  · obtain ⟨q1, q2, q3, q4⟩ := h.at_ b hb
    exact ⟨q1, q2, (hq b hb).2.1, (hq b hb).2.2⟩
  · rcases hE e he with q | rfl
    · exact h.lv e q k hk g hg hb
    · exact ⟨rfl, Nat.le_refl _⟩
end Go.Proofs.YtclgkgaobjcifaaGreatDoor

namespace Go.Proofs.YtclgkgaobjcifaaGreatDoor
open Go.RowKit
set_option maxRecDepth 100000
theorem rep_snoc (n : Nat) (u : Value) : List.replicate n u ++ [u] = List.replicate (n + 1) u := by
  rw [List.replicate_succ']
/-- a mark more in the list, where there is room -/
theorem Bk.listS {w z y : World} {N0 ub : Nat} {vl vm : Value} {E : List Vw} {M : List Int} {Dn : Nat → Prop} {m : Int} {g n c : Nat} (h : Bk w N0 ub vl vm E M Dn) (hl : Lm w N0 ub vl vm E Dn m (some ⟨g, 0, none⟩) n c) (hA : Below w.heap.size w z) (ho : y.ownsRow 0 3 1 (.slice (some ⟨g, 0, none⟩) (n + 1) c) (n + 1) (List.replicate n (.int .i64 m) ++ [.int .i64 m])) (hg : z.grownBy y (some g)) :
    Bk y N0 ub vl vm E M Dn ∧ Lm y N0 ub vl vm E Dn m (some ⟨g, 0, none⟩) (n + 1) c ∧ Only (fun b => b = g) w y := by
  have hO := grown_onlyW hg
  have hw : Only (fun b => b = g) w y := (Only.of_below (P := fun b => b = g) hA).trans hO (fun b _ q => (Option.some.inj q).symm)
  obtain ⟨a1, a2, a3, a4⟩ := hl.at_ g rfl
  have hv : ∀ e ∈ E, Vok y N0 ub vl vm Dn e := fun e he k hk => by
    obtain ⟨g', e1, e2, e3, e4, e5, e6, e7⟩ := h.vw e he k hk
    refine ⟨g', e1, ?_, Nat.lt_of_lt_of_le e3 hw.size, e4, e5, e6, e7⟩
    by_cases q : g' = g
    · subst q
      obtain ⟨t1, t2⟩ := hl.lv e he k hk g' e1 rfl
      obtain ⟨g2, s1, s2, _, _, _⟩ := own_cellW ho k (by omega)
      have : g2 = g' := by
        have := Option.some.inj s1
        injection this with t
        exact t.symm
      subst this
      rw [s2, rep_snoc, List.getElem?_replicate, if_pos (by omega), t1]
    · exact (World.cell?_of_block (a := ⟨g', k, none⟩) (hw.2 g' e3 q)).trans e2
  refine ⟨h.only hw (fun q => a2 q.symm) (fun b hb q => a3 (by rw [hb, q])) (fun b hb q => a4 (by rw [hb, q])) hv, ⟨by rw [← rep_snoc]; exact ho, fun b hb => ?_, fun e he k hk g' e1 hb => ?_⟩, hw⟩
  · have : g = b := Option.some.inj hb
    subst this
    exact ⟨a1, a2, a3, a4⟩
  · obtain ⟨t1, t2⟩ := hl.lv e he k hk g' e1 hb
    exact ⟨t1, by omega⟩
/-- .. where there is none -/
theorem Bk.listG {w z y : World} {N0 ub : Nat} {vl vm : Value} {E : List Vw} {M : List Int} {Dn : Nat → Prop} {m : Int} {n : Nat} {v' : Value} (h : Bk w N0 ub vl vm E M Dn) (hA : Below w.heap.size w z) (ho : y.ownsRow z.heap.size 3 1 v' (n + 1) (List.replicate n (.int .i64 m) ++ [.int .i64 m])) (hg : z.grownBy y none) :
    ∃ g c', v' = .slice (some ⟨g, 0, none⟩) (n + 1) c' ∧ Bk y N0 ub vl vm E M Dn ∧ Lm y N0 ub vl vm E Dn m (some ⟨g, 0, none⟩) (n + 1) c' ∧ Only (fun _ => False) w y := by
  have hO := grown_onlyW hg
  have hw : Only (fun _ => False) w y := (Only.of_below (P := fun _ => False) hA).trans hO (fun b _ q => by cases q)
  have hz := hA.size
  have hub := h.blk.lt
  have hge := h.ge
  rcases ho.2 with ⟨_, h0⟩ | ⟨g, cap, cur, h1, hb, hgb, hn, hc, hs, hx⟩
  · omega
  · subst h1
    have hv : ∀ e ∈ E, Vok y N0 ub vl vm Dn e := fun e he => (h.vw e he).turn hw (fun g' _ _ q3 q4 => ⟨fun q => q, q3, q4⟩)
    refine ⟨g, cap, rfl, h.only hw (fun q => q) (fun _ _ q => q) (fun _ _ q => q) hv, ⟨by rw [← rep_snoc]; exact own_baseW ho (Nat.zero_le _), fun b hb' => ?_, fun e he k hk g' e1 hb' => ?_⟩, hw⟩
    · have : g = b := Option.some.inj hb'
      subst this
      refine ⟨.inl (by omega), by omega, fun q => ?_, fun q => ?_⟩
      · have := (h.rl.lt g q).2
        omega
      · have := (h.rm.lt g q).2
        omega
    · have e2 : g = g' := Option.some.inj hb'
      subst e2
      obtain ⟨g2, s1, _, s3, _⟩ := h.vw e he k hk
      rw [e1] at s1
      have : g = g2 := by
        have := Option.some.inj s1
        injection this
      omega
/-- what owns leaves -/
def OwQ (w : World) (N0 ub : Nat) (E : List Vw) (M : List Int) (Dn : Nat → Prop) (b0 : Option Nat) (w' : World) : Prop := ∃ (vl vm : Value) (E' : List Vw), Bk w' N0 ub vl vm (E ++ E') (M ++ E'.map Vw.m) Dn ∧ E'.length = 12 ∧ (∀ e ∈ E', e.n ≤ 100) ∧ Only (fun b => N0 ≤ b ∨ b0 = some b) w w'
end Go.Proofs.YtclgkgaobjcifaaGreatDoor

namespace Go.Proofs.YtclgkgaobjcifaaGreatDoor
open Go.RowKit
set_option maxRecDepth 100000
theorem news_sl (w : World) (T : TypeId) (u : Value) (q : Nat) (v : Value) (h : [u][q]? = some v) : (w.alloc (.cells #[u] T)).cell? (Addr.add ⟨w.heap.size, 0, none⟩ q) = some v := news_oneW w T u q v h
set_option maxHeartbeats 8000000 in
theorem owns12_any (w : World) (N0 ub : Nat) (vl vm : Value) (E : List Vw) (M : List Int) (Dn Dn' : Nat → Prop) (h : Bk w N0 ub vl vm E M Dn) (hM : M.length = E.length) (hE : E.length ≤ 1000000) (N n c : Nat) (p : Option Addr) (ys0 : List Value) (hO : w.ownsRow N 3 1 (.slice p n c) n ys0) (hy0 : ∀ j, j < n → ∃ u, ys0[j]? = some u) (hn8 : n ≤ 8) (hsep : ∀ b, (Value.slice p n c).ownBlock = some b → (Dn' b ∧ b ≠ ub ∧ vl.ownBlock ≠ some b ∧ vm.ownBlock ≠ some b) ∧ ∀ e ∈ E, ∀ k, k < e.n → ∀ g, e.p = some ⟨g, 0, none⟩ → g ≠ b) (hD : ∀ g, Dn g → Dn' g) :
    Calls Tryz.prog 22 #[.pointer (some ⟨ub, 0, none⟩), .slice p n c] w fun e w' => e = .returned (.tuple #[]) ∧ OwQ w N0 ub E M Dn' (Value.slice p n c).ownBlock w' := by
  obtain ⟨i0, hi, hx0, hx1, hx2⟩ := info_parts info3w
  have HIN := hide (And.intro hi (And.intro hx0 (And.intro hx1 hx2)))
  obtain ⟨j0, hj, hv0, hv1, hv2⟩ := info_parts infoL
  have HIL := hide (And.intro hj (And.intro hv0 (And.intro hv1 hv2)))
  clear hi hx0 hx1 hx2 hj hv0 hv1 hv2
  have H0 := hide (h.mono hD)
  have c0 : w.cell? ⟨ub, 0, none⟩ = some vl := h.blk.cell 0
  obtain ⟨lp, lc, hvl⟩ := own_formW h.rl
  have HS := hide hsep
  have HY0 := hide (And.intro hO hy0)
  obtain ⟨m, hm⟩ : ∃ q, IntKind.i64.wrap (-5 - (E.length : Int)) = q := ⟨_, rfl⟩
  obtain ⟨el, hel⟩ : ∃ q, E.length = q := ⟨_, rfl⟩
  rw [hel] at hm hvl
  rw [hvl] at c0
  have HEL := hide (And.intro hel (And.intro hM hE))
  have HNL := hide h.ge
  clear h hsep hO hy0 hel hM hE hvl hD
  obtain ⟨b0, hb0⟩ : ∃ q, (Value.slice p n c).ownBlock = q := ⟨_, rfl⟩
  have HB0 := hide hb0
  rw [hb0]
  clear hb0
  go_enter Tryz.func22, Tryz.ntmps22
  go_wp2
  clear c0 hm
  go_loopw [5] (fun i wr => ∃ (k : Nat) (ys : List Value), k ≤ n ∧ i = .int .i64 (k : Int) ∧ wr.ownsRow N 3 1 (.slice p n c) n ys ∧ (∀ j, j < k → ys[j]? = some (.int .i64 m)) ∧ (∀ j, j < n → ∃ u, ys[j]? = some u) ∧ Only (fun b => b0 = some b) w wr) (fun i _ => n - (intOf i).toNat)
  case atStart => exact ⟨0, ys0, by omega, rfl, (unhide HY0).1, fun j hj => absurd hj (by omega), (unhide HY0).2, Only.refl _ _⟩
  case round =>
    obtain ⟨k, ys, hk, rfl, hr, hy, hyn, hO⟩ := hrel
    obtain ⟨wo, rfl⟩ : ∃ wo, wo = wr := ⟨_, rfl⟩
    by_cases hkn : k < n
    · obtain ⟨g, rfl, e2, e3, _, _⟩ := own_cellW hr k hkn
      obtain ⟨u, hu⟩ := hyn k hkn
      rw [hu] at e2
      have i1 : 0 ≤ (k : Int) := by omega
      have i2 : (k : Int) < (n : Int) := by omega
      have HR := hide (show (wo.setCell ⟨g, k, none⟩ (.int .i64 m)).ownsRow N 3 1 (.slice (some ⟨g, 0, none⟩) n c) n (ys.set k (.int .i64 m)) ∧ (∀ j, j < k + 1 → (ys.set k (.int .i64 m))[j]? = some (.int .i64 m)) ∧ (∀ j, j < n → ∃ u, (ys.set k (.int .i64 m))[j]? = some u) ∧ Only (fun b => b0 = some b) w (wo.setCell ⟨g, k, none⟩ (.int .i64 m)) from by
        have hkl : k < ys.length := (List.getElem?_eq_some_iff.1 hu).1
        refine ⟨owns_setW hr rfl k _, fun j hj => ?_, fun j hj => ?_, hO.setCell _ _ (fun _ => by rw [← unhide HB0]; rfl)⟩
        · by_cases q : j = k
          · subst q
            rw [List.getElem?_set_self hkl]
          · rw [List.getElem?_set_ne (by omega)]
            exact hy j (by omega)
        · by_cases q : j = k
          · subst q
            exact ⟨_, List.getElem?_set_self hkl⟩
          · rw [List.getElem?_set_ne (by omega)]
            exact hyn j hj)
      clear hr hy hyn hO hu
      go_wp2
      go_roundw
      case rel => exact ⟨k + 1, _, by omega, by go_num, unhide HR⟩
      case measure => simp [intOf]; omega
    · obtain rfl : k = n := by omega
      have i2 : ¬ (k : Int) < (k : Int) := by omega
      have hys : ys = List.replicate k (.int .i64 m) := by
        have hl : ys.length = k := by simpa using hr.1
        apply List.ext_getElem?
        intro j
        by_cases q : j < k
        · rw [hy j q, List.getElem?_replicate, if_pos q]
        · rw [List.getElem?_eq_none (by omega), List.getElem?_replicate, if_neg q]
      have HL0 := hide (show Bk wo N0 ub vl vm E M Dn' ∧ Lm wo N0 ub vl vm E Dn' m p k c ∧ Only (fun b => N0 ≤ b ∨ b0 = some b) w wo from by
        have h0 := unhide H0
        have hs := unhide HS
        have hb := unhide HB0
        have hne : ∀ b, b0 = some b → b ≠ ub ∧ vl.ownBlock ≠ some b ∧ vm.ownBlock ≠ some b := fun b q => ⟨(hs b (hb.trans q)).1.2.1, (hs b (hb.trans q)).1.2.2⟩
        refine ⟨h0.only hO (fun q => (hne _ q).1 rfl) (fun b q1 q2 => (hne b q2).2.1 q1) (fun b q1 q2 => (hne b q2).2.2 q1) (fun e he kk hkk => ?_), ⟨by rw [← hys]; exact own_baseW hr (Nat.zero_le _), fun b q => ?_, fun e he kk hkk g e1 q => ?_⟩, hO.mono (fun b _ q => .inr q)⟩
        · obtain ⟨g, e1, e2, e3, e4, e5, e6, e7⟩ := h0.vw e he kk hkk
          exact ⟨g, e1, (World.cell?_of_block (a := ⟨g, kk, none⟩) (hO.2 g e3 (fun q => (hs g (hb.trans q)).2 e he kk hkk g e1 rfl))).trans e2, Nat.lt_of_lt_of_le e3 hO.size, e4, e5, e6, e7⟩
        · obtain ⟨⟨q1, q2, q3⟩, _⟩ := hs b q
          exact ⟨.inr q1, q2, q3⟩
        · exact absurd rfl ((hs g q).2 e he kk hkk g e1))
      clear hr hy hyn hO hys i2 HY0 HS H0
      go_wp2
      go_loopw [1, 6] (fun l i wr => ∃ (j : Nat) (p' : Option Addr) (c' : Nat) (vl' vm' : Value) (E' : List Vw), j ≤ 12 ∧ i = .int .i64 (j : Int) ∧ l = .slice p' (k + j) c' ∧ E'.length = j ∧ Bk wr N0 ub vl' vm' (E ++ E') (M ++ E'.map Vw.m) Dn' ∧ Lm wr N0 ub vl' vm' (E ++ E') Dn' m p' (k + j) c' ∧ (∀ b, p' = some ⟨b, 0, none⟩ → N0 ≤ b ∨ b0 = some b) ∧ (∀ e ∈ E', e.n ≤ 100) ∧ Only (fun b => N0 ≤ b ∨ b0 = some b) w wr) (fun _ i _ => 12 - (intOf i).toNat)
      case atStart =>
        obtain ⟨a1, a2, a3⟩ := unhide HL0
        exact ⟨0, p, c, vl, vm, [], by omega, rfl, rfl, rfl, by rw [List.append_nil, List.map_nil, List.append_nil]; exact a1, by rw [List.append_nil]; exact a2, fun b q => .inr (by rw [← unhide HB0, q]; rfl), fun e he => absurd he (by simp), a3⟩
      case round =>
        obtain ⟨j, p', c', vl', vm', E', hj, rfl, rfl, hE', hB, hL, hpb, hen, hO⟩ := hrel
        have HPB := hide hpb
        have HEB := hide hen
        clear hpb hen
        obtain ⟨wr0, rfl⟩ : ∃ W, W = wr := ⟨_, rfl⟩
        by_cases hj12 : j < 12
        · have j1 : (j : Int) < 12 := by omega
          obtain ⟨nj, hnj⟩ : ∃ q, k + j = q := ⟨_, rfl⟩
          rw [hnj] at hL ⊢
          have HNJ := hide hnj
          obtain ⟨FE, hFE⟩ : ∃ q, E ++ E' = q := ⟨_, rfl⟩
          obtain ⟨FM, hFM⟩ : ∃ q, M ++ E'.map Vw.m = q := ⟨_, rfl⟩
          rw [hFE] at hB hL
          rw [hFM] at hB
          have HFE := hide (And.intro hFE (And.intro hFM hE'))
          have hlen : FE.length = el + j ∧ FM.length = el + j ∧ el ≤ 1000000 := by
            obtain ⟨q1, q2, q3⟩ := unhide HEL
            rw [← hFE, ← hFM, List.length_append, List.length_append, List.length_map]
            omega
          have HLN := hide hlen
          clear hnj hFE hFM hE' hlen
          have c0 : wr0.cell? ⟨ub, 0, none⟩ = some vl' := hB.blk.cell 0
          obtain ⟨fl, hfl⟩ : ∃ q, FE.length = q := ⟨_, rfl⟩
          obtain ⟨fm, hfm⟩ : ∃ q, FM.length = q := ⟨_, rfl⟩
          have HW := hide (And.intro hB (And.intro hL (And.intro hO (Nat.le_of_lt (Nat.lt_of_le_of_lt hB.ge hB.blk.lt)))))
          have HRA := hide (show (wr0.alloc (.cells #[.slice p' nj c'] 22)).ownsRow N0 22 1 vl' fl (FE.map Vw.s) from by
            rw [← hfl]
            exact own_onlyW hB.rl (Only.of_below (P := fun _ => False) (show Below wr0.heap.size wr0 (wr0.alloc (.cells #[.slice p' nj c'] 22)) from (Below.refl _ _).alloc (Nat.le_refl _) _)) (fun _ _ q => q))
          have HLE := hide (show N0 ≤ (wr0.alloc (.cells #[.slice p' nj c'] 22)).heap.size from by rw [World.size_alloc]; have := (unhide HW).2.2.2; omega)
          have HFL := hide hfl
          have HFM := hide hfm
          clear hB hL hO hfl hfm
          go_wp2_with (refine wpList_append_lies _ rfl (.tmp 31) (.tmp 33) 55 rfl N0 22 j0 (.slice none 0 0) 1 24 Tryz.underlying55 (unhide HIL).1 (unhide HIL).2.1 (unhide HIL).2.2.1 (unhide HIL).2.2.2 rfl (by decide) _ fl (FE.map Vw.s) rfl (unhide HRA) ⟨wr0.heap.size, 0, none⟩ 1 1 [.slice p' nj c'] rfl rfl (fun q u hu => news_sl wr0 22 _ q u hu) (by simp [Value.oneCell']) (by omega) (by have h1 := unhide HLN; have h2 := unhide HFL; unfold maxLen; omega) (by have h1 := unhide HLN; have h2 := unhide HFL; omega) (unhide HLE) _ rfl ?_)
          intro g1 c1 y1 ho1 hg1 hor1 hlt1
          obtain ⟨f1, k1, hB1, hO1⟩ := (unhide HW).1.pushL (e := ⟨p', nj, c', m⟩) ((Below.refl _ wr0).alloc (Nat.le_refl _) (.cells #[.slice p' nj c'] 22)) (by have e := unhide HFL; rw [e]; exact ho1) hg1 (by rw [World.size_alloc]; exact hor1) (unhide HW).2.1.vok
          rw [unhide HFL] at hB1 hO1
          obtain ⟨u1, hu1⟩ : ∃ Z, y1.setCell ⟨ub, 0, none⟩ (.slice (some ⟨g1, 0, none⟩) (fl + 1) c1) = Z := ⟨_, rfl⟩
          rw [hu1] at hB1 hO1
          have hL1 : Lm u1 N0 ub (.slice (some ⟨g1, 0, none⟩) (fl + 1) c1) vm' (FE ++ [⟨p', nj, c', m⟩]) Dn' m p' nj c' := (unhide HW).2.1.turn hO1 (fun b q1 q2 q3 q4 => ⟨fun q => q.elim q3 q2, (by
            rw [ownB]
            intro q
            have e := Option.some.inj q
            rcases hor1 with t | t
            · exact q3 (by rw [t, e])
            · omega), q4⟩) (fun e he => by
              rcases List.mem_append.1 he with q | q
              · exact .inl q
              · exact .inr (List.mem_singleton.1 q))
          have hO1' : Only (fun b => N0 ≤ b ∨ b0 = some b) w u1 := (unhide HW).2.2.1.trans hO1 (fun b _ q => .inl (by
            rcases q with q | q
            · exact ((unhide HW).1.rl.lt b q).1
            · rw [q]; exact (unhide HW).1.ge))
          have c1' : u1.cell? ⟨ub, 1, none⟩ = some vm' := hB1.blk.cell 1
          have HW1 := hide (And.intro hB1 (And.intro hL1 (And.intro hO1' (Nat.le_of_lt (Nat.lt_of_le_of_lt hB1.ge hB1.blk.lt)))))
          have HRB := hide (show (u1.alloc (.cells #[.int .i64 m] 3)).ownsRow N0 3 1 vm' fm (FM.map (Value.int .i64)) from by
            rw [← unhide HFM]
            exact own_onlyW hB1.rm (Only.of_below (P := fun _ => False) (show Below u1.heap.size u1 (u1.alloc (.cells #[.int .i64 m] 3)) from (Below.refl _ _).alloc (Nat.le_refl _) _)) (fun _ _ q => q))
          have HLF := hide (show N0 ≤ (u1.alloc (.cells #[.int .i64 m] 3)).heap.size from by rw [World.size_alloc]; have := (unhide HW1).2.2.2; omega)
          clear ho1 hg1 hor1 hlt1 hB1 hO1 hL1 hO1' HRA HLE HW c0
          go_wp2_with (refine wpList_append_lies _ rfl (.tmp 41) (.tmp 43) 22 rfl N0 3 i0 (.int .i64 0) 1 8 Tryz.underlying22 (unhide HIN).1 (unhide HIN).2.1 (unhide HIN).2.2.1 (unhide HIN).2.2.2 rfl (by decide) _ fm (FM.map (Value.int .i64)) rfl (unhide HRB) ⟨u1.heap.size, 0, none⟩ 1 1 [.int .i64 m] rfl rfl (fun q u hu => news_sl u1 3 _ q u hu) (by simp [Value.oneCell']) (by omega) (by have h1 := unhide HLN; have h2 := unhide HFM; unfold maxLen; omega) (by have h1 := unhide HLN; have h2 := unhide HFM; omega) (unhide HLF) _ rfl ?_)
          intro g2 c2 y2 ho2 hg2 hor2 hlt2
          obtain ⟨f2, k2, hB2, hO2⟩ := (unhide HW1).1.pushM (m := m) ((Below.refl _ u1).alloc (Nat.le_refl _) (.cells #[.int .i64 m] 3)) (by have e := unhide HFM; rw [e]; exact ho2) hg2 (by rw [World.size_alloc]; exact hor2)
          rw [unhide HFM] at hB2 hO2
          obtain ⟨u2, hu2⟩ : ∃ Z, y2.setCell ⟨ub, 1, none⟩ (.slice (some ⟨g2, 0, none⟩) (fm + 1) c2) = Z := ⟨_, rfl⟩
          rw [hu2] at hB2 hO2
          have hL2 : Lm u2 N0 ub (.slice (some ⟨g1, 0, none⟩) (fl + 1) c1) (.slice (some ⟨g2, 0, none⟩) (fm + 1) c2) (FE ++ [⟨p', nj, c', m⟩]) Dn' m p' nj c' := (unhide HW1).2.1.turn hO2 (fun b q1 q2 q3 q4 => ⟨fun q => q.elim q4 q2, q3, (by
            rw [ownB]
            intro q
            have e := Option.some.inj q
            rcases hor2 with t | t
            · exact q4 (by rw [t, e])
            · omega)⟩) (fun e he => .inl he)
          have hO2' : Only (fun b => N0 ≤ b ∨ b0 = some b) w u2 := (unhide HW1).2.2.1.trans hO2 (fun b _ q => .inl (by
            rcases q with q | q
            · exact ((unhide HW1).1.rm.lt b q).1
            · rw [q]; exact (unhide HW1).1.ge))
          have HW2 := hide (And.intro hB2 (And.intro hL2 (And.intro hO2' hB2.ge)))
          have HEN := hide (show ∃ E2 : List Vw, E ++ E2 = FE ++ [⟨p', nj, c', m⟩] ∧ M ++ E2.map Vw.m = FM ++ [m] ∧ E2.length = j + 1 ∧ ∀ e ∈ E2, e.n ≤ 100 from ⟨E' ++ [⟨p', nj, c', m⟩], by rw [← (unhide HFE).1, List.append_assoc], by rw [← (unhide HFE).2.1, List.map_append, ← List.append_assoc]; rfl, by rw [List.length_append, (unhide HFE).2.2]; rfl, fun e he => by
            rcases List.mem_append.1 he with q | q
            · exact unhide HEB e q
            · rw [List.mem_singleton.1 q]
              show nj ≤ 100
              have := unhide HNJ
              omega⟩)
          have hA3 : Below u2.heap.size u2 (u2.alloc (.cells #[.int .i64 m] 3)) := (Below.refl _ _).alloc (Nat.le_refl _) _
          have HA3 := hide hA3
          have HRC := hide (show (u2.alloc (.cells #[.int .i64 m] 3)).ownsRow 0 3 1 (.slice p' nj c') nj (List.replicate nj (.int .i64 m)) from own_onlyW hL2.row (Only.of_below (P := fun _ => False) hA3) (fun _ _ q => q))
          clear ho2 hg2 hor2 hlt2 hB2 hO2 hL2 hO2' HRB HLF HW1 hA3
          by_cases hcap : nj + 1 ≤ c'
          · obtain ⟨gl, hgl⟩ : ∃ gl, p' = some ⟨gl, 0, none⟩ := by
              rcases (unhide HRC).2 with ⟨e1, e0⟩ | ⟨gl, cap, cur, e1, _⟩
              · injection e1 with _ _ e3
                omega
              · exact ⟨gl, by injection e1⟩
            subst hgl
            go_wp2_with (refine wpList_append_own_spare _ rfl (.tmp 47) (.tmp 49) 22 rfl 0 3 i0 1 Tryz.underlying22 (unhide HIN).1 (unhide HIN).2.2.1 gl nj c' (List.replicate nj (.int .i64 m)) rfl (unhide HRC) ⟨u2.heap.size, 0, none⟩ 1 1 [.int .i64 m] rfl rfl (fun q u hu => news_sl u2 3 _ q u hu) (by simp [Value.oneCell']) hcap ?_)
            intro y3 ho3 hg3
            obtain ⟨b1, b2, b3⟩ := (unhide HW2).1.listS (unhide HW2).2.1 (unhide HA3) ho3 hg3
            have HRR := hide (show ∃ (vl' vm' : Value) (E2 : List Vw), (E2.length = j + 1 ∧ ∀ e ∈ E2, e.n ≤ 100) ∧ Bk y3 N0 ub vl' vm' (E ++ E2) (M ++ E2.map Vw.m) Dn' ∧ Lm y3 N0 ub vl' vm' (E ++ E2) Dn' m (some ⟨gl, 0, none⟩) (nj + 1) c' ∧ Only (fun b => N0 ≤ b ∨ b0 = some b) w y3 from by
              obtain ⟨E2, t1, t2, t3, t7⟩ := unhide HEN
              exact ⟨_, _, E2, ⟨t3, t7⟩, by rw [t1, t2]; exact b1, by rw [t1]; exact b2, (unhide HW2).2.2.1.trans b3 (fun b hb q => unhide HPB b (by rw [q]))⟩)
            clear ho3 hg3 b1 b2 b3
            go_wp2
            go_roundw
            case rel =>
              obtain ⟨v1, v2, E2, ⟨t3, t7⟩, t4, t5, t6⟩ := unhide HRR
              exact ⟨j + 1, _, c', v1, v2, E2, by omega, by go_num, by rw [show k + (j + 1) = nj + 1 by have := unhide HNJ; omega], t3, t4, by rw [show k + (j + 1) = nj + 1 by have := unhide HNJ; omega]; exact t5, unhide HPB, t7, t6⟩
            case measure => simp [intOf]; omega
          · have HNO := hide (show p' = none → nj = 0 ∧ c' = 0 from fun q => by
              rcases (unhide HRC).2 with ⟨e1, e0⟩ | ⟨gl, cap, cur, e1, _⟩
              · injection e1 with _ _ e3
                exact ⟨e0, e3⟩
              · injection e1 with e2
                rw [q] at e2
                cases e2)
            have HCE := hide (show ∀ b, p' = some b → ∀ jj u, (List.replicate nj (Value.int .i64 m))[jj]? = some u → (u2.alloc (.cells #[.int .i64 m] 3)).cell? (b.add jj) = some u from fun b hb jj u hu => by
              have hjj : jj < nj := by simpa using (List.getElem?_eq_some_iff.1 hu).1
              obtain ⟨gl, e1, e2, _⟩ := own_cellW (unhide HRC) jj hjj
              rw [hb] at e1
              rw [Option.some.inj e1, Addr.add_mid, Nat.zero_add, e2]
              exact hu)
            go_wp2_with (refine wpList_append_grows _ rfl (.tmp 47) (.tmp 49) 22 rfl 3 i0 (.int .i64 0) 1 8 Tryz.underlying22 (unhide HIN).1 (unhide HIN).2.1 (unhide HIN).2.2.1 (unhide HIN).2.2.2 rfl (by decide) p' nj c' (List.replicate nj (.int .i64 m)) rfl (unhide HNO) (by simp) (unhide HCE) ⟨u2.heap.size, 0, none⟩ 1 1 [.int .i64 m] rfl rfl (fun q u hu => news_sl u2 3 _ q u hu) (by simp [Value.oneCell']) (by omega) (by have h1 := unhide HNJ; unfold maxLen; omega) (by have h1 := unhide HNJ; omega) ?_)
            intro v3 y3 ho3 hg3
            obtain ⟨gl, cl, hv3, b1, b2, b3⟩ := (unhide HW2).1.listG (m := m) (n := nj) (unhide HA3) (by rw [World.size_alloc]; exact ho3) hg3
            subst hv3
            have HGN := hide (show ∀ b, (some ⟨gl, 0, none⟩ : Option Addr) = some ⟨b, 0, none⟩ → N0 ≤ b ∨ b0 = some b from fun b q => .inl (by
              have e : gl = b := by
                have := Option.some.inj q
                injection this
              have h1 := (ho3.lt gl rfl).1
              have h2 := (unhide HW2).2.2.2
              have h3 := (unhide HW2).1.blk.lt
              omega))
            have HRR := hide (show ∃ (vl' vm' : Value) (E2 : List Vw), (E2.length = j + 1 ∧ ∀ e ∈ E2, e.n ≤ 100) ∧ Bk y3 N0 ub vl' vm' (E ++ E2) (M ++ E2.map Vw.m) Dn' ∧ Lm y3 N0 ub vl' vm' (E ++ E2) Dn' m (some ⟨gl, 0, none⟩) (nj + 1) cl ∧ Only (fun b => N0 ≤ b ∨ b0 = some b) w y3 from by
              obtain ⟨E2, t1, t2, t3, t7⟩ := unhide HEN
              exact ⟨_, _, E2, ⟨t3, t7⟩, by rw [t1, t2]; exact b1, by rw [t1]; exact b2, (unhide HW2).2.2.1.trans b3 (fun b hb q => q.elim)⟩)
            clear ho3 hg3 b1 b2 b3
            go_wp2
            go_roundw
            case rel =>
              obtain ⟨v1, v2, E2, ⟨t3, t7⟩, t4, t5, t6⟩ := unhide HRR
              exact ⟨j + 1, _, cl, v1, v2, E2, by omega, by go_num, by rw [show k + (j + 1) = nj + 1 by have := unhide HNJ; omega], t3, t4, by rw [show k + (j + 1) = nj + 1 by have := unhide HNJ; omega]; exact t5, unhide HGN, t7, t6⟩
            case measure => simp [intOf]; omega
        · obtain rfl : j = 12 := by omega
          have j1 : ¬ ((12 : Nat) : Int) < 12 := by omega
          have HF := hide (show OwQ w N0 ub E M Dn' b0 wr0 from ⟨vl', vm', E', hB, hE', unhide HEB, hO⟩)
          clear hB hL hO hE'
          go_wp2
          go_end0
          exact ⟨rfl, unhide HF⟩
end Go.Proofs.YtclgkgaobjcifaaGreatDoor
