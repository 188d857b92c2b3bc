import Derived.Test.YtaedoagcbkgmbaaRfl4
namespace Go.Proofs.Ytaedoagcbkgmbaa
open Go.RowKit
/-- A disk and the document's, both fresh, of the sectors l, made behind B. -/
def Pr0 (w : World) (B b c : Nat) (l : List ByteArray) : Prop := ∃ v u, Dk w B b v (freshS l) ∧ Rk0 w B c u l
theorem Pr0.below {w w' : World} {B b c : Nat} {l : List ByteArray} (h : Pr0 w B b c l) (hb : Below w.heap.size w w') : Pr0 w' B b c l := by
  obtain ⟨v, u, h1, h2⟩ := h
  exact ⟨v, u, h1.below hb, h2.below hb⟩
theorem Rk0.base {w : World} {B B' b : Nat} {v : Value} {l : List ByteArray} (h : Rk0 w B b v l) (hb : B' ≤ B) : Rk0 w B' b v l := ⟨h.1, owns_base h.2.1 hb, Nat.le_trans hb h.2.2⟩
/-- Reading both alike. -/
theorem read_same (l : List ByteArray) (i : Int) : readT (freshS l) i = rreadT l i ∧ readE (freshS l) i = rreadE l i := by
  have hd : ¬ (freshS l).dead = true := by show ¬ false = true; decide
  by_cases hi : isOk (freshS l) i
  · have hi' : 0 ≤ i ∧ i < (l.length : Int) := hi
    rw [readT, readE, rreadT, rreadE, if_pos hi, if_pos hi, if_pos hi', if_pos hi', if_neg hd, if_neg hd]
    exact ⟨rfl, rfl⟩
  · have hi' : ¬ (0 ≤ i ∧ i < (l.length : Int)) := hi
    rw [readT, readE, rreadT, rreadE, if_neg hi, if_neg hi, if_neg hi', if_neg hi']
    exact ⟨rfl, rfl⟩
structure FrI (w : World) (B b c : Nat) (l : List ByteArray) (wr : World) : Prop where
  pr : Pr0 wr B b c l
  box : Blk wr w.heap.size #[.pointer (some ⟨b, 0, none⟩), .pointer (some ⟨c, 0, none⟩)] 57
  bel : Below w.heap.size w wr
theorem FrI.below {w : World} {B b c : Nat} {l : List ByteArray} {wr x : World} (h : FrI w B b c l wr) (hb : Below wr.heap.size wr x) : FrI w B b c l x := ⟨h.pr.below hb, h.box.below hb h.box.lt, h.bel.trans (hb.mono h.bel.size)⟩
theorem FrI.disk {w : World} {B b c : Nat} {l : List ByteArray} {wr : World} (h : FrI w B b c l wr) : ∃ v, Dk wr B b v (freshS l) := by
  obtain ⟨v, u, h1, h2⟩ := h.pr
  exact ⟨v, h1⟩
theorem FrI.ref {w : World} {B b c : Nat} {l : List ByteArray} {wr : World} (h : FrI w B b c l wr) : ∃ u, Rk0 wr B c u l := by
  obtain ⟨v, u, h1, h2⟩ := h.pr
  exact ⟨u, h2⟩
theorem FrI.lasts {w : World} {B b c : Nat} {l : List ByteArray} {wr : World} (h : FrI w B b c l wr) : ∃ p cap, wr.cell? ⟨c, 0, none⟩ = some (.slice p l.length cap) ∧ Strs wr p l := by
  obtain ⟨u, h2⟩ := h.ref
  obtain ⟨p, cap, e, hs⟩ := Strs.own h2.2.1
  exact ⟨p, cap, by rw [h2.1.cell 0, ← e]; rfl, hs⟩
theorem FrI.f0 {w : World} {B b c : Nat} {l : List ByteArray} {wr : World} (h : FrI w B b c l wr) : wr.cell? ⟨w.heap.size, 0, none⟩ = some (.pointer (some ⟨b, 0, none⟩)) := h.box.cell 0
theorem FrI.f1 {w : World} {B b c : Nat} {l : List ByteArray} {wr : World} (h : FrI w B b c l wr) : wr.cell? ⟨w.heap.size, 1, none⟩ = some (.pointer (some ⟨c, 0, none⟩)) := h.box.cell 1
set_option maxRecDepth 100000 in
set_option maxHeartbeats 2000000 in
theorem fresh_any (w : World) (B b c : Nat) (l : List ByteArray) (h : Pr0 w B b c l) (h1 : 128 ≤ l.length) (h2 : l.length ≤ 1024) (N : Int) (hN : N = (l.length : Int)) :
    Calls Try.prog 26 #[.agg #[.pointer (some ⟨b, 0, none⟩), .pointer (some ⟨c, 0, none⟩)], .int .i64 N] w fun e w' => e = .returned (.bool true) ∧ Below w.heap.size w w' := by
  subst hN
  have H := hide h
  have hS := Sane.fresh l (by omega) h2
  have HS := hide hS
  clear h hS
  have X0 := hide (show FrI w B b c l (w.alloc (Obj.cells #[.pointer (some ⟨b, 0, none⟩), .pointer (some ⟨c, 0, none⟩)] 57)) from ⟨(unhide H).below ((Below.refl _ _).alloc (Nat.le_refl _) _), Blk.new _ _ _, (Below.refl _ _).alloc (Nat.le_refl _) _⟩)
  go_enter Try.func26, Try.ntmps26
  go_wp2_with fail
  generalize w.alloc (Obj.cells #[.pointer (some ⟨b, 0, none⟩), .pointer (some ⟨c, 0, none⟩)] 57) = x0 at *
  obtain ⟨v0, hd0⟩ := (unhide X0).disk
  refine (image_any _ _ b v0 _ hd0 (unhide HS).pos (unhide HS).cap).mono ?_
  rintro ev x1 ⟨vi, rfl, hri, hbi⟩
  have X1 := hide ((unhide X0).below hbi)
  obtain ⟨pi, ci, rfl, hsi⟩ := Strs.own hri
  have XI := hide (show Strs x1 pi l from hsi)
  rw [show (freshS l).last.length = l.length from rfl]
  obtain ⟨pw, cw, hcw, hsw⟩ := (unhide X1).lasts
  have XW := hide hsw
  have q0 := (unhide X1).f0
  have q1 := (unhide X1).f1
  clear hd0 hri hbi hsi hsw X0 H
  go_wp2_with fail
  refine (same_any _ pi pw ci cw l (unhide XI) (unhide XW) (by omega)).mono ?_
  rintro ev x2 ⟨rfl, hb2⟩
  have X2 := hide ((unhide X1).below hb2)
  have q0 := (unhide X2).f0
  have q1 := (unhide X2).f1
  clear hb2 X1 XI XW hcw
  obtain ⟨v2, hd2⟩ := (unhide X2).disk
  have XD := hide hd2
  clear hd2
  go_wp2_with fail
  refine (size_any _ _ b v2 _ (unhide XD)).mono ?_
  rintro ev x3 ⟨rfl, rfl⟩
  rw [show (freshS l).last.length = l.length from rfl]
  go_wp2_with fail
  refine (pending_any _ _ b v2 _ (unhide XD)).mono ?_
  rintro ev x4 ⟨rfl, rfl⟩
  rw [show (freshS l).pend.length = 0 from rfl]
  go_wp2_with fail
  refine (dead_any _ _ b v2 _ (unhide XD)).mono ?_
  rintro ev x5 ⟨rfl, rfl⟩
  rw [show (freshS l).dead = false from rfl]
  go_wp2_with fail
  refine (trace_any _ _ b v2 _ (unhide XD) (by show 0 ≤ _; omega) (unhide HS).acts).mono ?_
  rintro ev x6 ⟨rfl, _, hb6⟩
  rw [show (freshS l).acts.length = 0 from rfl]
  have X6 := hide ((unhide X2).below hb6)
  clear hb6 X2 XD q0 q1
  obtain ⟨D, hD⟩ : ∃ D : Nat, (l.length : Int).tdiv 5 = (D : Int) ∧ D ≤ 1024 := ⟨l.length / 5, by rw [Int.tdiv_eq_ediv_of_nonneg (by omega)]; omega, by omega⟩
  have hD1 := hD.1
  have hD2 := hD.2
  clear hD
  go_wp2
  go_loopw [7] (fun i wr => ∃ z : Int, -1 ≤ z ∧ z ≤ 4000 ∧ i = .int .i64 z ∧ FrI w B b c l wr) (fun i _ => (5000 - intOf i).toNat)
  case atStart => exact ⟨-1, by omega, by omega, rfl, unhide X6⟩
  case round =>
    obtain ⟨z, hz1, hz2, rfl, hI⟩ := hrel
    have XI := hide hI
    clear hI X6
    by_cases hzl : z ≤ (l.length : Int)
    · obtain ⟨v3, hd3⟩ := (unhide XI).disk
      have XD := hide hd3
      obtain ⟨u3, hr3⟩ := (unhide XI).ref
      have XR := hide hr3
      have q0 := (unhide XI).f0
      have q1 := (unhide XI).f1
      have HRS := hide (read_same l z)
      clear hd3 hr3
      go_wp2_with fail
      refine (read_any _ _ b v3 _ (unhide XD) (unhide HS).same z).mono ?_
      rintro ev y1 ⟨rfl, rfl⟩
      rw [(unhide HRS).1, (unhide HRS).2]
      go_wp2_with fail
      refine (rread_any _ _ c u3 l (unhide XR) z).mono ?_
      rintro ev y2 ⟨rfl, hb2⟩
      have X2 := hide ((unhide XI).below hb2)
      generalize rreadT l z = RT at *
      generalize rreadE l z = RE at *
      have w1 : IntKind.i64.wrap (z + 1) = z + 1 := wrapI_eq _ (by omega) (by omega)
      have w2 : IntKind.i64.wrap (z + 1 + (D : Int)) = z + 1 + (D : Int) := wrapI_eq _ (by omega) (by omega)
      clear hb2 HRS XD XR XI q0 q1
      go_wp2
      go_roundw
      case rel => exact ⟨z + 1 + (D : Int), by omega, by omega, rfl, unhide X2⟩
      case measure => simp [intOf]; omega
    · go_wp2
      go_ret
      exact ⟨rfl, (unhide XI).bel⟩
theorem results_ct {fn : Func} {p q : Tmp} {ty : TypeId} (h : fn.results = #[.cell p ty, .tmp q]) (tmps : Array Value) (P : Program) (w : World) (ad : Addr) (ha : tmps.getD p undef = .pointer (some ad)) (v : Value) (hl : (loadVar ty ad).run P w = .ok v w) (u : Value) (hu : tmps.getD q undef = u) :
    (results fn tmps).run P w = .ok (.tuple #[v, u]) w := by
  have ha' : tmps[p]?.getD undef = .pointer (some ad) := by simpa using ha
  have hu' : tmps[q]?.getD undef = u := by simpa using hu
  simp only [results, h]
  simp [ha', hu', asAddr, hl]
def MadePost (n : Int) (w : World) (e : Ending) (w' : World) : Prop :=
  if 128 ≤ n ∧ n ≤ 1024 then ∃ b c, e = .returned (.tuple #[.agg #[.pointer (some ⟨b, 0, none⟩), .pointer (some ⟨c, 0, none⟩)], .bool true]) ∧ Pr0 w' w.heap.size b c (List.replicate n.toNat zero256) ∧ Below w.heap.size w w'
  else e = .returned (.tuple #[.agg #[.pointer none, .pointer none], .bool true]) ∧ Below w.heap.size w w'
set_option maxRecDepth 100000 in
set_option maxHeartbeats 2000000 in
theorem made_any (n : Int) (w : World) : Calls Try.prog 25 #[.int .i64 n] w (MadePost n w) := by
  have HN := hide (fun W => new_any n W)
  have HR := hide (fun W => rnew_any n W)
  have B0 := hide (Blk.new w 57 #[.pointer none, .pointer none])
  have BB := hide (show Below w.heap.size w (w.alloc (Obj.cells #[.pointer none, .pointer none] 57)) from (Below.refl _ _).alloc (Nat.le_refl _) _)
  go_enter Try.func25, Try.ntmps25
  go_wp2_with fail
  generalize w.alloc (Obj.cells #[.pointer none, .pointer none] 57) = W0 at *
  refine (unhide HN _).mono ?_
  intro ev x1 h1
  by_cases hn : 128 ≤ n ∧ n ≤ 1024
  · rw [NewPost, if_pos hn] at h1
    obtain ⟨b, v, rfl, hd, hb⟩ := h1
    have XD := hide hd
    have XB := hide hb
    clear hd hb
    go_wp2_with fail
    refine (unhide HR _).mono ?_
    intro ev x2 h2
    rw [RNewPost, if_pos hn] at h2
    obtain ⟨c, u, rfl, hr, hb2⟩ := h2
    have hB2 := ((unhide B0).below (unhide XB) (unhide B0).lt).below hb2 (((unhide B0).below (unhide XB) (unhide B0).lt).lt)
    have q0 : x2.cell? ⟨w.heap.size, 0, none⟩ = some (.pointer none) := hB2.cell 0
    have q1 : x2.cell? ⟨w.heap.size, 1, none⟩ = some (.pointer none) := hB2.cell 1
    have p0 := hB2.frozen 0
    have p1 := hB2.frozen 1
    have XB3 := hide hB2
    have hs0 := (unhide BB).size
    have hs1 := (unhide XB).size
    have XP := hide (show Pr0 ((x2.setCell ⟨w.heap.size, 0, none⟩ (.pointer (some ⟨b, 0, none⟩))).setCell ⟨w.heap.size, 1, none⟩ (.pointer (some ⟨c, 0, none⟩))) w.heap.size b c (List.replicate n.toNat zero256) ∧ Below w.heap.size w ((x2.setCell ⟨w.heap.size, 0, none⟩ (.pointer (some ⟨b, 0, none⟩))).setCell ⟨w.heap.size, 1, none⟩ (.pointer (some ⟨c, 0, none⟩))) from by
      have hlt0 := (unhide B0).lt
      have hO : Only (fun k => k = w.heap.size) x2 ((x2.setCell ⟨w.heap.size, 0, none⟩ (.pointer (some ⟨b, 0, none⟩))).setCell ⟨w.heap.size, 1, none⟩ (.pointer (some ⟨c, 0, none⟩))) := ((Only.refl (fun k => k = w.heap.size) x2).setCell ⟨w.heap.size, 0, none⟩ _ (fun _ => rfl)).setCell ⟨w.heap.size, 1, none⟩ _ (fun _ => rfl)
      have d2 := (unhide XD).below hb2
      refine ⟨⟨v, u, (d2.only hO (fun k hk q => ?_)).base hs0, ?_⟩, ((((unhide BB).trans ((unhide XB).mono hs0)).trans (hb2.mono (by omega))).setCell (Nat.le_refl _) _).setCell (Nat.le_refl _) _⟩
      · have := (d2.fd k hk).1
        omega
      · refine Rk0.base (B := x1.heap.size) ⟨hr.1.only hO (fun q => ?_), owns_only hr.2.1 hO (fun k hk q => ?_), hr.2.2⟩ (by omega)
        · have := hr.2.2
          omega
        · have := (hr.2.1.lt k hk).1
          omega)
    clear hr hb2 HN HR hB2
    have HNN := hide hn
    clear hn XD B0
    go_wp2
    have B3 := ((unhide XB3).set 0 (.pointer (some ⟨b, 0, none⟩))).set 1 (.pointer (some ⟨c, 0, none⟩))
    have hld := load_blk 57 _ B3 Try.underlying57 rfl (by kernel_rfl)
    refine bodyPost_ret (v := .tuple #[.agg #[.pointer (some ⟨b, 0, none⟩), .pointer (some ⟨c, 0, none⟩)], .bool true]) ?_ rfl ?_
    · exact results_ct rfl _ _ _ ⟨w.heap.size, 0, none⟩ rfl _ hld (.bool true) rfl
    · rw [MadePost, if_pos (unhide HNN)]
      exact ⟨b, c, rfl, (unhide XP).1, (unhide XP).2⟩
  · rw [NewPost, if_neg hn] at h1
    obtain ⟨rfl, rfl⟩ := h1
    go_wp2_with fail
    refine (unhide HR _).mono ?_
    intro ev x2 h2
    rw [RNewPost, if_neg hn] at h2
    obtain ⟨rfl, rfl⟩ := h2
    have HNN := hide hn
    have q0 := (unhide B0).cell 0
    have q1 := (unhide B0).cell 1
    have p0 := (unhide B0).frozen 0
    have p1 := (unhide B0).frozen 1
    simp at q0 q1
    clear hn HN HR
    go_wp2
    have B3 := ((unhide B0).set 0 (.pointer none)).set 1 (.pointer none)
    have hld := load_blk 57 _ B3 Try.underlying57 rfl (by kernel_rfl)
    refine bodyPost_ret (v := .tuple #[.agg #[.pointer none, .pointer none], .bool true]) ?_ rfl ?_
    · exact results_ct rfl _ _ _ ⟨w.heap.size, 0, none⟩ rfl _ hld (.bool true) rfl
    · rw [MadePost, if_neg (unhide HNN)]
      exact ⟨rfl, ((unhide BB).setCell (Nat.le_refl _) _).setCell (Nat.le_refl _) _⟩
end Go.Proofs.Ytaedoagcbkgmbaa
