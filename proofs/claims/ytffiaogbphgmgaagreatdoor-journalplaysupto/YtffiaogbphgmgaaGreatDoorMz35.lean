import Derived.Test.YtffiaogbphgmgaaGreatDoorMz34
import Derived.Laws.OwnMore
import Derived.WalkMore
import Derived.Deep.MidRow
import Derived.Deep.AppendLies
namespace Go.Proofs.YtffiaogbphgmgaaGreatDoor
open Go.RowKit
set_option maxRecDepth 100000
theorem infoSd : (Tryz.prog.info? 32).map (fun i => (i.zero, i.size, i.bytes)) = some (some (.pointer none), 1, 8) := by kernel_rfl
/-- the cells of a side without journals -/
def sdC (b br : Nat) : Array Value := #[.pointer (some ⟨b, 0, none⟩), .pointer (some ⟨br, 0, none⟩), .pointer none, .pointer none, .pointer none, .pointer none]
/-- fresh disks are as good as may be -/
theorem gdN (m : Nat) (h1 : 128 ≤ m) (h2 : m ≤ 1024) : Gd (freshS (List.replicate m zero256)) m 0 0 := by
  have hz : ∀ t ∈ List.replicate m zero256, t.size ≤ 256 := fun t ht => by rw [(List.mem_replicate.1 ht).2]; exact Nat.le_of_eq zero256_size
  exact ⟨Sane.fresh _ (by rw [List.length_replicate]; omega) (by rw [List.length_replicate]; omega), Coh.fresh _, ⟨hz, hz, fun q hq => by cases hq⟩, List.length_replicate .., Nat.le_refl _, Nat.le_refl _⟩
/-- what one round leaves: one side, its pointer in a list -/
def PlB (x1 : World) (u : Value) (w : World) : Prop :=
  ∃ lb cap xa b br m, u = .slice (some ⟨lb, 0, none⟩) 1 cap ∧ w.ownsRow x1.heap.size 32 1 u 1 [.pointer (some ⟨xa, 0, none⟩)] ∧ Sd x1 w xa b br (freshS (List.replicate m zero256)) (freshS (List.replicate m zero256)) (sdC b br) (fun k => k = lb) ∧ 128 ≤ m ∧ m ≤ 1024
/-- all sides there -/
def PlC (x1 : World) (u : Value) (w : World) (p : Nat) : Prop :=
  ∃ lb cap xs, u = .slice (some ⟨lb, 0, none⟩) (xs.length : Nat) cap ∧ Sds x1 w lb xs p ∧ ∀ j, j < xs.length → w.cell? ⟨lb, j, none⟩ = some (.pointer (some ⟨xs.getD j 0, 0, none⟩))
theorem PlB.new {x1 y4 y6 : World} {xb b br m g cap : Nat} (hS : Sd x1 y4 xb b br (freshS (List.replicate m zero256)) (freshS (List.replicate m zero256)) (sdC b br) (fun _ => False)) (h1 : 128 ≤ m) (h2 : m ≤ 1024)
    (ho : y6.ownsRow x1.heap.size 32 1 (.slice (some ⟨g, 0, none⟩) 1 cap) 1 [.pointer (some ⟨xb, 0, none⟩)]) (hg : (y4.alloc (.cells #[.pointer (some ⟨xb, 0, none⟩)] 32)).grownBy y6 none) (hgg : g = y4.heap.size + 1) (hgl : g < y6.heap.size) : PlB x1 (.slice (some ⟨g, 0, none⟩) 1 cap) y6 := by
  have hO := grown_only hg
  have hb : Below y4.heap.size y4 y6 := (((Only.refl (fun _ => False) y4).alloc _).trans hO (fun k _ q => by cases q)).below (Nat.le_refl _) (fun _ _ q => q.elim)
  exact ⟨g, cap, xb, b, br, m, rfl, ho, hS.more hb (fun k q => .inr ⟨by omega, by omega⟩), h1, h2⟩
theorem PlB.sides {x1 : World} {u : Value} {w : World} (h : PlB x1 u w) : PlC x1 u w 0 := by
  obtain ⟨lb, cap, xa, b, br, m, rfl, ho, hS, h1, h2⟩ := h
  have hl := ho.lt lb rfl
  refine ⟨lb, cap, [xa], rfl, ⟨hl.2, .inl ⟨xa, _, m, rfl, Se.bare hS, gdN m h1 h2, by omega⟩⟩, fun j hj => ?_⟩
  obtain rfl : j = 0 := by simp only [List.length_cons, List.length_nil] at hj; omega
  rw [ho.cellAt 0 (by decide)]
  rfl
theorem PlB.two {x1 y : World} {u : Value} (h : PlB x1 u y) {y4 y6 : World} {xb b br m g cap : Nat} (hS : Sd y y4 xb b br (freshS (List.replicate m zero256)) (freshS (List.replicate m zero256)) (sdC b br) (fun _ => False)) (hb : Below y.heap.size y y4) (h1 : 128 ≤ m) (h2 : m ≤ 1024) (xa : Nat) (hxa : y.ownsRow x1.heap.size 32 1 u 1 [.pointer (some ⟨xa, 0, none⟩)])
    (ho : y6.ownsRow x1.heap.size 32 1 (.slice (some ⟨g, 0, none⟩) 2 cap) 2 [.pointer (some ⟨xa, 0, none⟩), .pointer (some ⟨xb, 0, none⟩)]) (hg : (y4.alloc (.cells #[.pointer (some ⟨xb, 0, none⟩)] 32)).grownBy y6 u.ownBlock) (hgg : u.ownBlock = some g ∨ g = y4.heap.size + 1) (hgl : g < y6.heap.size) : PlC x1 (.slice (some ⟨g, 0, none⟩) 2 cap) y6 0 := by
  obtain ⟨lb, cap', xa', b', br', m', rfl, ho', hS', h1', h2'⟩ := h
  have hl := ho'.lt lb rfl
  obtain rfl : xa' = xa := by
    have e1 := ho'.cellAt 0 (by decide)
    have e2 := hxa.cellAt 0 (by decide)
    rw [e1] at e2
    simpa using e2
  have hO := grown_only hg
  have hO2 : Only (fun k => k = lb) y4 y6 := ((Only.refl (fun k => k = lb) y4).alloc _).trans hO (fun k _ q => by
    simp [Value.ownBlock] at q
    exact q.symm)
  have hz := hb.size
  have hz2 := hO2.size
  have hb1 := hS'.bel
  have hz1 := hb1.size
  have hgg' : g = lb ∨ g = y4.heap.size + 1 := by
    rcases hgg with q | q
    · simp [Value.ownBlock] at q
      exact .inl q.symm
    · exact .inr q
  have hb6 : Below x1.heap.size x1 y6 := (hb1.trans (hb.mono hz1)).trans (hO2.below (by omega) (fun k hk q => by have := hl.1; omega))
  have k1 : Sd x1 y6 xa' b' br' (freshS (List.replicate m' zero256)) (freshS (List.replicate m' zero256)) (sdC b' br') (fun k => k < y6.heap.size ∧ (y.heap.size ≤ k ∨ k = g)) := by
    have hO3 : Only (fun k => k = lb) y y6 := (Only.of_below (P := fun k => k = lb) hb).trans hO2 (fun _ _ q => q)
    exact hS'.grow hO3 hb6 (fun k _ q => .inl q) (fun k q => by
      rcases q with ⟨q1, q2 | q2⟩
      · exact .inr ⟨q2, q1⟩
      · rcases hgg' with r | r
        · exact .inl (q2.trans r)
        · exact .inr ⟨by omega, q1⟩)
  have k2 : Sd x1 y6 xb b br (freshS (List.replicate m zero256)) (freshS (List.replicate m zero256)) (sdC b br) (fun k => k < y6.heap.size ∧ (¬ y.heap.size ≤ k ∨ k = g)) :=
    (hS.base hb1).grow hO2 hb6 (fun k _ q => .inl (.inr (by rw [q]; exact hl.2))) (fun k q => by
      rcases q with ⟨q1, q2 | q2⟩
      · exact .inl (.inr (by omega))
      · rcases hgg' with r | r
        · exact .inl (.inr (by have := hl.2; omega))
        · exact .inr ⟨by omega, q1⟩)
  refine ⟨g, cap, [xa', xb], rfl, ⟨hgl, .inr ⟨xa', xb, _, _, m', m, rfl, Two.init (w1 := y) k1 k2, gdN m' h1' h2', gdN m h1 h2, by omega, by omega⟩⟩, fun j hj => ?_⟩
  have hj' : j = 0 ∨ j = 1 := by simp only [List.length_cons, List.length_nil] at hj; omega
  rcases hj' with rfl | rfl
  · rw [ho.cellAt 0 (by decide)]
    rfl
  · rw [ho.cellAt 1 (by decide)]
    rfl
theorem PlB.xa {x1 : World} {u : Value} {w : World} (h : PlB x1 u w) : ∃ lb cap xa, u = .slice (some ⟨lb, 0, none⟩) 1 cap ∧ w.ownsRow x1.heap.size 32 1 u 1 [.pointer (some ⟨xa, 0, none⟩)] := by
  obtain ⟨lb, cap, xa, b, br, m, h1, h2, -⟩ := h
  exact ⟨lb, cap, xa, h1, h2⟩
theorem PlB.bel {x1 : World} {u : Value} {w : World} (h : PlB x1 u w) : Below x1.heap.size x1 w := by
  obtain ⟨lb, cap, xa, b, br, m, h1, h2, h3, -⟩ := h
  exact h3.bel
/-- behind k rounds -/
def PlI (x1 : World) (k : Nat) (u : Value) (w : World) : Prop :=
  (k ≤ 1 ∧ u = .slice none 0 0 ∧ w = x1) ∨ (k = 1 ∧ PlB x1 u w) ∨ (k = 2 ∧ PlC x1 u w 0)
end Go.Proofs.YtffiaogbphgmgaaGreatDoor

namespace Go.Proofs.YtffiaogbphgmgaaGreatDoor
open Go.RowKit
set_option maxRecDepth 100000
theorem sizeOpj : (Tryz.prog.info? 41).map (·.size) = some 7 := by kernel_rfl
theorem OpL.up {w0 w1 : World} {l1 l2 l3 : Option Addr} {wl : List Wr1} {kl tl : List Int} (h : OpL w0 l1 l2 l3 wl kl tl) (hb : Below w0.heap.size w0 w1) : OpL w1 l1 l2 l3 wl kl tl :=
  ⟨fun W q => h.w W (hb.trans (q.mono hb.size)), fun g o e z => Nat.lt_of_lt_of_le (h.wz g o e z) hb.size, fun W q => h.k W (hb.trans (q.mono hb.size)), fun g o e z => Nat.lt_of_lt_of_le (h.k0 g o e z) hb.size, fun W q => h.t W (hb.trans (q.mono hb.size)), h.wn, h.kn, h.tB⟩
theorem only_cellJ {P : Nat → Prop} {w w' : World} (ho : Only P w w') {g o : Nat} {v : Value} (hc : w.cell? ⟨g, o, none⟩ = some v) (hp : ¬ P g) : w'.cell? ⟨g, o, none⟩ = some v :=
  (World.cell?_of_block (a := ⟨g, o, none⟩) (ho.2 g (World.block_lt_of_cell? w _ hc) hp)).trans hc
set_option maxHeartbeats 8000000 in
theorem plays5 (sec : Int) (p : Option Addr) (n c N : Nat) (f : Nat → Opj) (W : World) (hG : ETy W) (hP : OpJ W p n N f) (hN : N ≤ 7000000) (hn : n ≤ 700000) :
    Calls Tryz.prog 3 #[.int .i64 sec, .slice p n c] W fun e w' => e = .returned (.bool true) ∧ Below W.heap.size W w' := by
  obtain ⟨i0, hi, hz0, hz1, hz2⟩ := info_parts infoSd
  have HIN := hide (And.intro hi (And.intro hz0 (And.intro hz1 hz2)))
  have HAW := hide (awake_any W hG)
  have HP := hide hP
  have HGW := hide hG
  have HN := hide (And.intro hN hn)
  clear hP hG hN hn hi hz0 hz1 hz2
  go_enter Tryz.func3, Tryz.ntmps3
  go_wp2_with fail
  refine (unhide HAW).mono ?_
  rintro e x1 ⟨rfl, hb1⟩
  have HB1 := hide hb1
  have HG1 := hide ((unhide HGW).below hb1 (unhide HGW).lt)
  clear hb1 HAW HGW
  have HI := hide (show PlI x1 0 (.slice none 0 0) x1 from .inl ⟨by omega, rfl, rfl⟩)
  go_wp2_with fail
  go_loopw [6, 7, 8, 9, 10, 11, 12] (fun u i _ _ _ _ _ wr => ∃ k : Nat, k ≤ 2 ∧ i = .int .i64 (k : Int) ∧ PlI x1 k u wr) (fun _ i _ _ _ _ _ _ => 2 - (intOf i).toNat)
  case atStart => exact ⟨0, by omega, rfl, unhide HI⟩
  case round =>
    obtain ⟨k, hk, rfl, hI⟩ := hrel
    obtain ⟨y, rfl⟩ : ∃ wo, wo = wr := ⟨_, rfl⟩
    clear HI
    rcases hI with ⟨hk1, rfl, hw⟩ | ⟨hk1, hB⟩ | ⟨hk2, hCC⟩
    · subst hw
      have hlt : (k : Int) < 2 := by omega
      by_cases hk0 : k = 0
      · have h01 : ((k : Int) == 1) = false := by simp; omega
        by_cases hs : 128 ≤ sec ∧ sec ≤ 1024
        · have HSE := hide hs
          clear hs
          as_aux_lemma =>
            have HN1 := hide (new_any sec y)
            go_wp2_with fail
            refine (unhide HN1).mono ?_
            intro e x2 hq
            rw [NewPost, if_pos (unhide HSE)] at hq
            obtain ⟨b, v, rfl, hD, hb2⟩ := hq
            have HD := hide hD
            have HB2 := hide hb2
            have HN2 := hide (rnew_any sec x2)
            clear hD hb2 HN1
            go_wp2_with fail
            refine (unhide HN2).mono ?_
            intro e x3 hq
            rw [RNewPost, if_pos (unhide HSE)] at hq
            obtain ⟨br, vr, rfl, hR, hb3⟩ := hq
            obtain ⟨xb, hxb⟩ : ∃ z, x3.heap.size = z := ⟨_, rfl⟩
            obtain ⟨x4, hx4⟩ : ∃ z, x3.alloc (.cells #[.pointer (some ⟨b, 0, none⟩), .pointer (some ⟨br, 0, none⟩), .pointer none, .pointer none, .pointer none, .pointer none] 36) = z := ⟨_, rfl⟩
            have HS4 := hide (show Sd y x4 xb b br (freshS (List.replicate sec.toNat zero256)) (freshS (List.replicate sec.toNat zero256)) (sdC b br) (fun _ => False) from Sd.init (unhide HD) (unhide HB2) hR.rk hb3 hxb _ hx4)
            have HB4 := hide (show Below y.heap.size y x4 from (unhide HS4).bel)
            have HRA := hide (World.ownsRow_nil (x4.alloc (.cells #[.pointer (some ⟨xb, 0, none⟩)] 32)) y.heap.size 32 1)
            have HBS := hide (show y.heap.size ≤ x4.heap.size + 1 by
              have h4 := (unhide HB4).size
              skip
              omega)
            clear hR hb3 HD HB2 HN2
            go_wp2_with (refine wpList_append_lies _ rfl (.tmp 48) (.tmp 53) 24 rfl y.heap.size 32 i0 (.pointer none) 1 8 Tryz.underlying24 (unhide HIN).1 (unhide HIN).2.1 (unhide HIN).2.2.1 (unhide HIN).2.2.2 rfl (by decide) _ 0 [] rfl (unhide HRA) ⟨x4.heap.size, 0, none⟩ 1 1 [.pointer (some ⟨xb, 0, none⟩)] rfl rfl (fun q u hu => news_one x4 32 _ q u hu) (by simp [Value.oneCell']) (by decide) (by decide) (by decide) (by simpa using (unhide HBS)) (x4.heap.size + 1) (by simp) ?_)
            intro g5 cap5 x5 ho5 hg5 hgg hgl
            have HR := hide (show PlB y (.slice (some ⟨g5, 0, none⟩) 1 cap5) x5 from PlB.new (unhide HS4) (by have := unhide HSE; omega) (by have := unhide HSE; omega) ho5 hg5 (by
              rcases hgg with q | q
              · simp [Value.ownBlock] at q
              · exact q) hgl)
            clear ho5 hg5 hgg hgl HRA HS4 HB4 HBS hx4 hxb
            go_wp2
            go_roundw
            case rel => exact ⟨k + 1, by omega, by go_num, .inr (.inl ⟨by omega, unhide HR⟩)⟩
            case measure => simp [intOf]; omega
        · have HSE := hide hs
          clear hs
          as_aux_lemma =>
            have HN1 := hide (new_any sec y)
            go_wp2_with fail
            refine (unhide HN1).mono ?_
            intro e x2 hq
            rw [NewPost, if_neg (unhide HSE)] at hq
            obtain ⟨rfl, hq⟩ := hq
            subst x2
            have HN2 := hide (rnew_any sec y)
            clear HN1
            go_wp2_with fail
            refine (unhide HN2).mono ?_
            intro e x3 hq
            rw [RNewPost, if_neg (unhide HSE)] at hq
            obtain ⟨rfl, hq⟩ := hq
            subst x3
            clear HN2
            go_wp2
            go_roundw
            case rel => exact ⟨k + 1, by omega, by go_num, .inl ⟨by omega, rfl, rfl⟩⟩
            case measure => simp [intOf]; omega
      · have h01 : ((k : Int) == 1) = true := by simp; omega
        as_aux_lemma =>
          have HN1 := hide (new_any 130 y)
          go_wp2_with fail
          refine (unhide HN1).mono ?_
          intro e x2 hq
          rw [NewPost, if_pos (by decide)] at hq
          obtain ⟨b, v, rfl, hD, hb2⟩ := hq
          have HD := hide hD
          have HB2 := hide hb2
          have HN2 := hide (rnew_any 130 x2)
          clear hD hb2 HN1
          go_wp2_with fail
          refine (unhide HN2).mono ?_
          intro e x3 hq
          rw [RNewPost, if_pos (by decide)] at hq
          obtain ⟨br, vr, rfl, hR, hb3⟩ := hq
          obtain ⟨xb, hxb⟩ : ∃ z, x3.heap.size = z := ⟨_, rfl⟩
          obtain ⟨x4, hx4⟩ : ∃ z, x3.alloc (.cells #[.pointer (some ⟨b, 0, none⟩), .pointer (some ⟨br, 0, none⟩), .pointer none, .pointer none, .pointer none, .pointer none] 36) = z := ⟨_, rfl⟩
          have HS4 := hide (show Sd y x4 xb b br (freshS (List.replicate 130 zero256)) (freshS (List.replicate 130 zero256)) (sdC b br) (fun _ => False) from Sd.init (unhide HD) (unhide HB2) hR.rk hb3 hxb _ hx4)
          have HB4 := hide (show Below y.heap.size y x4 from (unhide HS4).bel)
          have HRA := hide (World.ownsRow_nil (x4.alloc (.cells #[.pointer (some ⟨xb, 0, none⟩)] 32)) y.heap.size 32 1)
          have HBS := hide (show y.heap.size ≤ x4.heap.size + 1 by
            have h4 := (unhide HB4).size
            skip
            omega)
          clear hR hb3 HD HB2 HN2
          go_wp2_with (refine wpList_append_lies _ rfl (.tmp 48) (.tmp 53) 24 rfl y.heap.size 32 i0 (.pointer none) 1 8 Tryz.underlying24 (unhide HIN).1 (unhide HIN).2.1 (unhide HIN).2.2.1 (unhide HIN).2.2.2 rfl (by decide) _ 0 [] rfl (unhide HRA) ⟨x4.heap.size, 0, none⟩ 1 1 [.pointer (some ⟨xb, 0, none⟩)] rfl rfl (fun q u hu => news_one x4 32 _ q u hu) (by simp [Value.oneCell']) (by decide) (by decide) (by decide) (by simpa using (unhide HBS)) (x4.heap.size + 1) (by simp) ?_)
          intro g5 cap5 x5 ho5 hg5 hgg hgl
          have HR := hide (show PlB y (.slice (some ⟨g5, 0, none⟩) 1 cap5) x5 from PlB.new (unhide HS4) (by decide) (by decide) ho5 hg5 (by
            rcases hgg with q | q
            · simp [Value.ownBlock] at q
            · exact q) hgl)
          clear ho5 hg5 hgg hgl HRA HS4 HB4 HBS hx4 hxb
          go_wp2
          go_roundw
          case rel => exact ⟨k + 1, by omega, by go_num, .inr (.inr ⟨by omega, (unhide HR).sides⟩)⟩
          case measure => simp [intOf]; omega
    · have hlt : (k : Int) < 2 := by omega
      have h01 : ((k : Int) == 1) = true := by simp; omega
      as_aux_lemma =>
        obtain ⟨lb, cap, xa, rfl, hxa⟩ := hB.xa
        have HXA := hide hxa
        have HBI := hide hB
        have HBB := hide hB.bel
        clear hxa hB
        have HN1 := hide (new_any 130 y)
        go_wp2_with fail
        refine (unhide HN1).mono ?_
        intro e x2 hq
        rw [NewPost, if_pos (by decide)] at hq
        obtain ⟨b, v, rfl, hD, hb2⟩ := hq
        have HD := hide hD
        have HB2 := hide hb2
        have HN2 := hide (rnew_any 130 x2)
        clear hD hb2 HN1
        go_wp2_with fail
        refine (unhide HN2).mono ?_
        intro e x3 hq
        rw [RNewPost, if_pos (by decide)] at hq
        obtain ⟨br, vr, rfl, hR, hb3⟩ := hq
        obtain ⟨xb, hxb⟩ : ∃ z, x3.heap.size = z := ⟨_, rfl⟩
        obtain ⟨x4, hx4⟩ : ∃ z, x3.alloc (.cells #[.pointer (some ⟨b, 0, none⟩), .pointer (some ⟨br, 0, none⟩), .pointer none, .pointer none, .pointer none, .pointer none] 36) = z := ⟨_, rfl⟩
        have HS4 := hide (show Sd y x4 xb b br (freshS (List.replicate 130 zero256)) (freshS (List.replicate 130 zero256)) (sdC b br) (fun _ => False) from Sd.init (unhide HD) (unhide HB2) hR.rk hb3 hxb _ hx4)
        have HB4 := hide (show Below y.heap.size y x4 from (unhide HS4).bel)
        have HRA := hide (show (x4.alloc (.cells #[.pointer (some ⟨xb, 0, none⟩)] 32)).ownsRow x1.heap.size 32 1 (.slice (some ⟨lb, 0, none⟩) 1 cap) 1 [.pointer (some ⟨xa, 0, none⟩)] from (owns_only (unhide HXA) (Only.of_below (P := fun _ => False) (unhide HB4)) (fun _ _ q => q)).alloc _)
        have HBS := hide (show x1.heap.size ≤ x4.heap.size + 1 by
          have h4 := (unhide HB4).size
          have h5 := (unhide HBB).size
          omega)
        clear hR hb3 HD HB2 HN2
        go_wp2_with (refine wpList_append_lies _ rfl (.tmp 48) (.tmp 53) 24 rfl x1.heap.size 32 i0 (.pointer none) 1 8 Tryz.underlying24 (unhide HIN).1 (unhide HIN).2.1 (unhide HIN).2.2.1 (unhide HIN).2.2.2 rfl (by decide) _ 1 [.pointer (some ⟨xa, 0, none⟩)] rfl (unhide HRA) ⟨x4.heap.size, 0, none⟩ 1 1 [.pointer (some ⟨xb, 0, none⟩)] rfl rfl (fun q u hu => news_one x4 32 _ q u hu) (by simp [Value.oneCell']) (by decide) (by decide) (by decide) (by simpa using (unhide HBS)) (x4.heap.size + 1) (by simp) ?_)
        intro g5 cap5 x5 ho5 hg5 hgg hgl
        have HR := hide (show PlC x1 (.slice (some ⟨g5, 0, none⟩) 2 cap5) x5 0 from PlB.two (unhide HBI) (unhide HS4) (unhide HB4) (by decide) (by decide) xa (unhide HXA) ho5 hg5 hgg hgl)
        clear ho5 hg5 hgg hgl HRA HS4 HB4 HBS hx4 hxb
        go_wp2
        go_roundw
        case rel => exact ⟨k + 1, by omega, by go_num, .inr (.inr ⟨by omega, unhide HR⟩)⟩
        case measure => simp [intOf]; omega
    · have hlt : ¬ (k : Int) < 2 := by omega
      clear hk hk2
      as_aux_lemma =>
        obtain ⟨lb, cap, xs, rfl, hS, hcl⟩ := hCC
        obtain ⟨l, hl⟩ : ∃ z, xs.length = z := ⟨_, rfl⟩
        rw [hl] at hcl
        rw [hl]
        have HL := hide hl
        have HI := hide (show ∃ q : Nat, q ≤ n ∧ (.int .i64 0 : Value) = .int .i64 (q : Int) ∧ Sds x1 y lb xs (40 * q) ∧ ∀ j, j < l → y.cell? ⟨lb, j, none⟩ = some (.pointer (some ⟨xs.getD j 0, 0, none⟩)) from ⟨0, Nat.zero_le _, rfl, hS, hcl⟩)
        clear hl hS hcl
        go_wp2
        go_loopw [13, 14, 15] (fun i _ _ wr => ∃ q : Nat, q ≤ n ∧ i = .int .i64 (q : Int) ∧ Sds x1 wr lb xs (40 * q) ∧ ∀ j, j < l → wr.cell? ⟨lb, j, none⟩ = some (.pointer (some ⟨xs.getD j 0, 0, none⟩))) (fun i _ _ _ => n - (intOf i).toNat)
        case atStart => exact unhide HI
        case round =>
          obtain ⟨q, hqn, rfl, hS, hcl⟩ := hrel
          obtain ⟨z, rfl⟩ : ∃ wo, wo = wr := ⟨_, rfl⟩
          clear HI
          by_cases hq : q < n
          · have hq' : (q : Int) < (n : Int) := by omega
            have hq0 : (0 : Int) ≤ (q : Int) := by omega
            as_aux_lemma =>
              obtain ⟨g, o, rfl, hg, hr, hok⟩ := unhide HP q hq
              have hbz : Below W.heap.size W z := (unhide HB1).trans (hS.bel.mono (unhide HB1).size)
              have HOL := hide ((hok.op (unhide HN).1).up (unhide HB1))
              have HOK := hide (And.intro hok.on (And.intro hok.i (show (f q).s.size ≤ 140737488355328 from Nat.le_trans hok.s (by have := (unhide HN).1; omega))))
              have hrz : z.rangeAt g (o + q * 7) (f q).cl := fun j v hv => (hbz.cell (p := ⟨g, o + q * 7 + j, none⟩) hg).trans (hr j v hv)
              generalize f q = F at *
              obtain ⟨kd, on, ii, st, l1, l2, l3, m1, m2, m3, wl, kl, tl⟩ := F
              have hc1 : z.cell? ⟨g, o + q * 7 + 1, none⟩ = some (.int .i64 on) := hrz 1 _ rfl
              have hll := hS.len
              rw [unhide HL] at hll
              have hl0 : 0 < l := by omega
              have HPK := hide (pick5_c on l hl0 (unhide HOK).1 (l : Int) rfl z)
              have hpl := pickP_lt on l hl0
              obtain ⟨j, hj⟩ : ∃ w, pickP on l = w := ⟨_, rfl⟩
              rw [hj] at HPK hpl
              have hj0 : (0 : Int) ≤ (j : Int) := by omega
              have hj1 : (j : Int) < (l : Int) := by omega
              have hcj := hcl j hpl
              have HST := hide (hS.step (unhide HG1) (by have := (unhide HN).2; omega) j (by rw [unhide HL]; exact hpl) kd on ii (unhide HOK).2.1 st (unhide HOK).2.2 l1 l2 l3 m1 m2 m3 wl kl tl (unhide HOL))
              have HAL := hide (fun (Z : World) (h : Sds x1 Z lb xs (40 * q + 40)) => h.alike (by have := (unhide HN).2; omega) j (by rw [unhide HL]; exact hpl))
              have HCL := hide hcl
              have HRG := hide (show z.rangeAt g (o + q * 7) [.int .i64 kd, .int .i64 on, .int .i64 ii, .string st, .slice l1 wl.length m1, .slice l2 kl.length m2, .slice l3 tl.length m3] from hrz)
              generalize hxj : xs.getD j 0 = xj at *
              generalize wl.length = n1 at *
              generalize kl.length = n2 at *
              generalize tl.length = n3 at *
              clear hxj hg hr hok hbz hrz hll hl0 hpl hj hcl hS HOL HOK
              go_wp2_with fail
              refine (unhide HPK).mono ?_
              rintro e z1 ⟨rfl, hz1⟩
              subst z1
              clear HPK
              go_wp2_with (refine wpList_load_mid rfl 41 (.tmp 75) rfl g (o + q * 7) rfl [.int .i64 kd, .int .i64 on, .int .i64 ii, .string st, .slice l1 n1 m1, .slice l2 n2 m2, .slice l3 n3 m3] _ (unhide HRG) Tryz.underlying41 rfl (by rw [sizeOpj]; rfl) ?_)
              refine (unhide HST).mono ?_
              rintro e z2 ⟨rfl, hS2, hO2⟩
              have HA2 := hide (unhide HAL z2 hS2)
              have HC2 := hide (fun (i : Nat) (hi : i < l) => only_cellJ hO2 (unhide HCL i hi) (fun r => r rfl))
              have HL2 := hide hS2.1
              clear hS2 hO2 HST HAL HCL HRG hc1 hcj
              go_wp2_with fail
              refine (unhide HA2).mono ?_
              rintro e z3 ⟨rfl, hS3, hb3⟩
              have HR := hide (And.intro hS3 (fun (i : Nat) (hi : i < l) => (hb3.cell (p := ⟨lb, i, none⟩) (unhide HL2)).trans (unhide HC2 i hi)))
              have hwq : IntKind.i64.wrap ((q : Int) + 1) = (q : Int) + 1 := wrapI_eq _ (by omega) (by have := (unhide HN).2; omega)
              clear hS3 hb3 HA2 HC2 HL2
              go_wp2
              go_roundw
              case rel => have hn7 := (unhide HN).2; exact ⟨q + 1, by omega, by go_num, by rw [Nat.mul_succ]; exact (unhide HR).1, (unhide HR).2⟩
              case measure => have hn7 := (unhide HN).2; simp [intOf]; omega
          · obtain rfl : q = n := by omega
            have hq' : ¬ (q : Int) < (q : Int) := by omega
            have HE := hide (show Below W.heap.size W z from (unhide HB1).trans (hS.bel.mono (unhide HB1).size))
            clear hS hcl
            go_wp2
            go_ret
            exact ⟨rfl, unhide HE⟩
end Go.Proofs.YtffiaogbphgmgaaGreatDoor
