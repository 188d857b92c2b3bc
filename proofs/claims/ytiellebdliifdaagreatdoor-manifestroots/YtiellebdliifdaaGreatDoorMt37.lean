import Derived.Test.YtiellebdliifdaaGreatDoorMt36
import Derived.Test.YtiellebdliifdaaGreatDoorMt25
namespace Go.Proofs.YtiellebdliifdaaGreatDoor
open Go.RowKit Go.Shelf
attribute [local go_sem] Oper.semAt_some
abbrev Mv (e : Nat → Ent) := { i : Nat // i < 60 ∧ (e i).isSome = true }
def mpd (e : Nat → Ent) (k : Nat) : List (Mv e) := (List.range k).filterMap (fun i => if h : i < 60 ∧ (e i).isSome = true then some ⟨i, h⟩ else none)
theorem mpd_some {e : Nat → Ent} {k : Nat} (h : k < 60 ∧ (e k).isSome = true) : mpd e (k + 1) = mpd e k ++ [⟨k, h⟩] := by
 rw [mpd, List.range_succ, List.filterMap_append]
 simp only [List.filterMap_cons, List.filterMap_nil]
 rw [dif_pos h]
 rfl
theorem mpd_none {e : Nat → Ent} {k : Nat} (h : (e k).isSome = false) : mpd e (k + 1) = mpd e k := by
 rw [mpd, List.range_succ, List.filterMap_append]
 simp only [List.filterMap_cons, List.filterMap_nil]
 rw [dif_neg (fun q => by rw [h] at q; cases q.2), List.append_nil]
 rfl
theorem mpd_len (e : Nat → Ent) (k : Nat) : (mpd e k).length ≤ k := by
 have := List.length_filterMap_le (fun i => if h : i < 60 ∧ (e i).isSome = true then some (⟨i, h⟩ : Mv e) else none) (List.range k)
 rw [List.length_range] at this
 exact this
def Ks (W W' : World) : Prop := W.heap.size ≤ W'.heap.size
theorem ks_t {A B C : World} (h : Ks A B) (k : Ks B C) : Ks A C := Nat.le_trans h k
theorem ks_b (W : World) (l : Nat) (o' : Obj) : Ks W (W.putObj l o') := by show W.heap.size ≤ _; simp
theorem index_B (bs : List Value) (k : Nat) (hk : k < 60) (a c : Value) (d1 : bs[2 * k]? = some a) (d2 : bs[2 * k + 1]? = some c) (W : World) : (Instr.index 78 (.agg bs.toArray) (.int .i64 (k : Int))).run Tryz.prog W = .ok (.agg #[a, c]) W := by
 have ht : Tryz.prog.underlying 78 = some (.array 60 47) := Tryz.underlying78
 have hs : ∀ W, (sizeOf 47).run Tryz.prog W = .ok 2 W := fun W => by kernel_rfl
 have hg : ∀ W, (isAgg 47).run Tryz.prog W = .ok true W := fun W => by kernel_rfl
 have h0 : (0 : Int) ≤ (k : Int) ∧ (k : Int) < ((60 : Nat) : Int) := by omega
 have he : List.take 2 (List.drop (k * 2) bs) = [a, c] := by
  apply List.ext_getElem?
  intro i
  rw [List.getElem?_take, List.getElem?_drop]
  rcases (show i = 0 ∨ i = 1 ∨ 2 ≤ i by omega) with rfl | rfl | hi
  ·rw [show k * 2 + 0 = 2 * k by omega, if_pos (by omega), d1]; rfl
  ·rw [show k * 2 + 1 = 2 * k + 1 by omega, if_pos (by omega), d2]; rfl
  ·rw [if_neg (by omega), List.getElem?_eq_none (by simpa using hi)]
 simp [Instr.index, asIntOf, run_underlying ht, h0, hs, part, hg]
 rw [if_pos hk, he]
set_option maxRecDepth 100000 in
set_option maxHeartbeats 2000000 in
theorem mapped1_in (n l Bt : Nat) (e : Nat → Ent) (he : ∀ i, i < 60 → EOk (e i)) (J Jx : List (Mv e) → World → Prop) (W : World) (hJa : AbidesFrom W.heap.size J)
  (hY : ∀ pre x W1, J pre W1 → pre.length < 60 → YieldAt Fence.wide (n - 1) Tryz.prog l #[.int .i64 (x.1 : Int), .agg #[.string (vtD (e x.1)), .string (vtW (e x.1))]] W1 fun e' W' =>
   (e' = .returned (.bool true) ∧ J (pre ++ [x]) W' ∧ Ks W1 W') ∨ (e' = .returned (.bool false) ∧ Jx (pre ++ [x]) W'))
  (hB : Blk W Bt (bC e).toArray 78) (h0 : J [] W) :
  CallsIn Fence.wide n Tryz.prog 90 #[.func (.yield l) #[] #[], .pointer (some ⟨Bt, 0, none⟩)] W fun e' W' => (∃ v, e' = .returned v) ∧
   ((∃ xs, xs = mpd e 60 ∧ J xs W') ∨ (∃ pre, (∃ k, pre = mpd e k) ∧ Jx pre W')) := by
 have HIM := hide (fun i (hi : i < 60) W => isMapped_any (e i) (he i hi) W)
 have hbl := bC_len e
 have hbd : ∀ i, i < 60 → (bC e)[2 * i]? = some (.string (vtD (e i))) ∧ (bC e)[2 * i + 1]? = some (.string (vtW (e i))) := fun i hi => by
  rw [bC_get _ _ (by omega), bC_get _ _ (by omega), if_pos (by omega), if_neg (by omega), show 2 * i / 2 = i by omega, show (2 * i + 1) / 2 = i by omega]
  exact ⟨rfl, rfl⟩
 generalize bC e = bs at *
 have R := hide (blk_range hB)
 refine callsIn_of_wp Tryz.func90 rfl trivial ?_ rfl
 simp only [Tryz.ntmps90, List.size_toArray, List.length_cons, List.length_nil, Nat.reduceAdd, Nat.reduceSub, Array.replicate_succ, Array.replicate_zero, List.push_toArray, List.append_toArray, List.nil_append, List.cons_append]
 gi_wp2_with (refine wpListIn_load_mid' rfl 78 (.tmp 1) rfl Bt 0 rfl _ _ (unhide R) Tryz.underlying78 rfl (by rw [sizeB, hbl]) ?_)
 gi_loopw [6] (fun i wr => ∃ k : Nat, k ≤ 60 ∧ i = .int .i64 (k : Int) ∧ J (mpd e k) wr ∧ W.heap.size ≤ wr.heap.size) (fun i _ => 60 - (intOf i).toNat)
 case atStart => exact ⟨0, by omega, rfl, h0, Nat.le_refl _⟩
 case round =>
  obtain ⟨k, hk, rfl, hJ, hsz⟩ := hrel
  obtain ⟨wo, rfl⟩ : ∃ wo, wo = wr := ⟨_, rfl⟩
  by_cases hlt : k < 60
  ·have hlt2 : (k : Int) < 60 := by omega
   have hk0 : (0 : Int) ≤ (k : Int) := by omega
   have HIK := hide (unhide HIM k hlt)
   obtain ⟨d1, d2⟩ := hbd k hlt
   have HJ := hide hJ
   clear hJ
   have hix := index_B bs k hlt _ _ d1 d2
   obtain ⟨g4, hg4⟩ : ∃ q, wo.heap.size = q := ⟨_, rfl⟩
   obtain ⟨x1, hx1⟩ : ∃ q, wo.alloc (.cells #[.string (vtD (e k)), .string (vtW (e k))] 47) = q := ⟨_, rfl⟩
   have hb1 : Below wo.heap.size wo x1 := by rw [← hx1]; exact (Below.refl _ wo).alloc (Nat.le_refl _) _
   have B4 : Blk x1 g4 #[.string (vtD (e k)), .string (vtW (e k))] 47 := by rw [← hx1, ← hg4]; exact Blk.new wo _ _
   have a0 : x1.cell? ⟨g4, 0, none⟩ = some (.string (vtD (e k))) := B4.cell 0
   have a1 : x1.cell? ⟨g4, 1, none⟩ = some (.string (vtW (e k))) := B4.cell 1
   gi_wp2_with fail
   refine ⟨trivial, (fun h => by cases h), ?_⟩
   refine (callsIn_wide.2 (unhide HIK x1)).mono ?_
   rintro e1 w1 ⟨rfl, hb2⟩
   have hJ1 : J (mpd e k) w1 := hJa _ _ _ none (hJa _ _ _ none (unhide HJ) (grown_bel hb1 none) (by simp)) (grown_bel hb2 none) (by simp)
   have hs1 : W.heap.size ≤ w1.heap.size := Nat.le_trans hsz (Nat.le_trans hb1.size hb2.size)
   have B5 := B4.below hb2 B4.lt
   have a5 : w1.cell? ⟨g4, 0, none⟩ = some (.string (vtD (e k))) := B5.cell 0
   have a6 : w1.cell? ⟨g4, 1, none⟩ = some (.string (vtW (e k))) := B5.cell 1
   clear HJ HIK hb1 hb2 B4 a0 a1 B5 hix d1 d2 hx1
   cases hz : (e k).isSome with
   | false =>
    have HJ1 := hide (show J (mpd e (k + 1)) w1 from by rw [mpd_none hz]; exact hJ1)
    clear hJ1
    gi_wp2
    refine ⟨fun _ h => (by cases h), ?_⟩
    gi_wp2
    go_roundw
    case rel => exact ⟨k + 1, by omega, by go_num, unhide HJ1, hs1⟩
    case measure => simp [intOf]; omega
   | true =>
    obtain ⟨fn, tmps, assign, body, hy, hR⟩ := hY (mpd e k) ⟨k, hlt, hz⟩ w1 hJ1 (by have := mpd_len e k; omega)
    have HTS := hide (mpd_some (e := e) ⟨hlt, hz⟩)
    clear hJ1
    dsimp only at hy
    gi_wp2
    refine ⟨(fun h => by cases h), hR.mono ?_⟩
    rintro e1 W3 (⟨rfl, hJ3, hk3⟩ | ⟨rfl, hJx3⟩)
    ·have HJ3 := hide (show J (mpd e (k + 1)) W3 from by rw [unhide HTS]; exact hJ3)
     have hs3 : W.heap.size ≤ W3.heap.size := Nat.le_trans hs1 hk3
     clear hJ3 hk3 hR hy
     gi_wp2
     go_roundw
     case rel => exact ⟨k + 1, by omega, by go_num, unhide HJ3, hs3⟩
     case measure => simp [intOf]; omega
    ·have HJX := hide (show Jx (mpd e (k + 1)) W3 from by rw [unhide HTS]; exact hJx3)
     clear hJx3 hR hy
     gi_wp2
     refine bodyPost_ret (results_none rfl _ _ _) rfl ?_
     exact ⟨⟨_, rfl⟩, .inr ⟨_, ⟨k + 1, rfl⟩, unhide HJX⟩⟩
  ·have hge : ¬ (k : Int) < 60 := by omega
   obtain rfl : k = 60 := by omega
   gi_wp2
   go_end0
   exact ⟨⟨_, rfl⟩, .inl hJ⟩
theorem mapped_any (bs : List Value) (w : World) :
  Calls Tryz.prog 35 #[.agg bs.toArray] w fun e w' => e = .returned (.func (.func 90) #[] #[.pointer (some ⟨w.heap.size, 0, none⟩)]) ∧ w' = w.alloc (.cells bs.toArray 78) := by
 go_enter Tryz.func35, Tryz.ntmps35
 go_wp2
 go_ret
 exact ⟨rfl, rfl⟩
theorem mapped_stops (n Bt : Nat) (e : Nat → Ent) (he : ∀ i, i < 60 → EOk (e i)) (w : World) (hB : Blk w Bt (bC e).toArray 78) :
  SeqStopsK Fence.wide n Tryz.prog 90 #[.pointer (some ⟨Bt, 0, none⟩)] (fun x : Mv e => #[.int .i64 (x.1 : Int), .agg #[.string (vtD (e x.1)), .string (vtW (e x.1))]]) Ks (fun xs => xs = mpd e 60) (fun pre => ∃ k, pre = mpd e k) 60 w := fun l J Jx W hW hJa _ hY h0 =>
 mapped1_in n l Bt e he J Jx W hJa hY (hB.below hW hB.lt) h0
end Go.Proofs.YtiellebdliifdaaGreatDoor
namespace Go.Proofs.YtiellebdliifdaaGreatDoor
open Go.RowKit Go.Shelf
attribute [local go_sem] Oper.semAt_some
theorem results_t3 {fn : Func} {p q r : Tmp} (h : fn.results = #[.tmp p, .tmp q, .tmp r]) (tmps : Array Value) (P : Program) (w : World) : (results fn tmps).run P w = .ok (.tuple #[tmps.getD p undef, tmps.getD q undef, tmps.getD r undef]) w := by
 simp only [results, h]
 simp
structure CI (x5 : World) (g7 gn gm : Nat) (xs : List Value) (p q : Int) (W : World) : Prop where
 b7 : Blk W g7 xs.toArray 69
 bn : Blk W gn #[.int .i64 p] 3
 bm : Blk W gm #[.int .i64 q] 3
 be : Below x5.heap.size x5 W
theorem CI.turn {x5 : World} {g7 gn gm : Nat} {xs : List Value} {p q : Int} {W W' : World} {B : Nat} (h : CI x5 g7 gn gm xs p q W) (hB : x5.heap.size ≤ B) {row : Option Nat} (hg : W.grownBy W' row) (hr : ∀ r, row = some r → B ≤ r ∧ ∃ o : Obj, W.heap[r]? = some o ∧ o.isCells = false) : CI x5 g7 gn gm xs p q W' := by
 have hO : Only (fun q => row = some q) W W' := (Only.refl _ _).grown hg (fun q _ e => e)
 have nb : ∀ {g : Nat} {cur : Array Value} {t : TypeId}, Blk W g cur t → Blk W' g cur t := fun hb => hb.only hO (fun q => hb.nc (hr _ q).2 rfl)
 exact ⟨nb h.b7, nb h.bn, nb h.bm, h.be.trans (hO.below h.be.size (fun k hk q => by have := (hr k q).1; omega))⟩
set_option maxRecDepth 100000 in
set_option maxHeartbeats 4000000 in
theorem mapped_in {w0 w : World} {b jb pb mb sb : Nat} {X : Nat → Prop} {n : Nat} {S : PS} {L : List ByteArray} {A : List (Nat × Nat)} {hn : Nat} {Mw Mn : List ByteArray} {T : Nat → Bool} (h : MG w0 w b jb pb mb sb X n S L A hn Mw Mn T) {m : Nat} {V : Nat → Vol} (hv : VS Mn n m T V) (k : Nat) (hk : k < m) : CallsIn Fence.wide 6 Tryz.prog 11 #[.pointer (some ⟨sb, 0, none⟩), .int .i64 ((V k).r : Int)] w fun e w' => e = .returned (.tuple #[.int .i64 ((mpd (V k).e 60).length : Int), .int .i64 (1 + ((thr (V k).lf 20).length : Int)), .int .i64 0]) ∧ MKept w0 w b jb pb mb sb X n S L A hn Mw Mn T w' := by
 have hzb := zeroB
 have HRA := hide (sReadAll h hv k hk)
 have HXM := hide (And.intro h.bg.xm h.xs)
 have HEO := hide (fun i hi => hv.eo k hk i hi)
 have hxl := trC_len ((V k).r : Int) ((V k).num : Int) (V k).lf
 have hxo := trC_one ((V k).r : Int) ((V k).num : Int) (V k).lf
 have hbl := bC_len (V k).e
 have hbo := all_oneCell_toArray (bC_one (V k).e)
 have HTS := hide (fun Bt W hB => there_stops 5 Bt ((V k).r : Int) ((V k).num : Int) (V k).lf W hB)
 have HMS := hide (fun Bt W hB => mapped_stops 5 Bt (V k).e (unhide HEO) W hB)
 generalize trC ((V k).r : Int) ((V k).num : Int) (V k).lf = xs at *
 generalize bC (V k).e = bs at *
 have HXL := hide hxl
 have HXO := hide hxo
 have HBL := hide hbl
 have HBO := hide hbo
 clear h hv hxl hxo hbl hbo
 refine callsIn_of_wp_marks Tryz.func11 rfl trivial ?_ rfl
 simp only [Tryz.ntmps11, List.size_toArray, List.length_cons, List.length_nil, Nat.reduceAdd, Nat.reduceSub, Array.replicate_succ, Array.replicate_zero, List.push_toArray, List.append_toArray, List.nil_append, List.cons_append]
 gi_wp2_with fail
 refine ⟨trivial, (callsIn_wide.2 (unhide HRA)).mono ?_⟩
 rintro e x1 ⟨rfl, hK1⟩
 have X1 := hide hK1
 clear hK1 HRA
 obtain ⟨g7, hg7⟩ : ∃ q, x1.heap.size = q := ⟨_, rfl⟩
 obtain ⟨x2, hx2⟩ : ∃ q, x1.alloc (.cells #[.int .i64 0, .int .i64 0, .int .i64 0, .int .i64 0, .int .i64 0, .int .i64 0, .int .i64 0, .int .i64 0, .int .i64 0, .int .i64 0, .int .i64 0, .int .i64 0, .int .i64 0, .int .i64 0, .int .i64 0, .int .i64 0, .int .i64 0, .int .i64 0, .int .i64 0, .int .i64 0, .int .i64 0, .int .i64 0] 69) = q := ⟨_, rfl⟩
 obtain ⟨g8, hg8⟩ : ∃ q, x2.heap.size = q := ⟨_, rfl⟩
 obtain ⟨x3, hx3⟩ : ∃ q, x2.alloc (.cells z120 78) = q := ⟨_, rfl⟩
 have h78 : g7 < g8 := by rw [← hg8, ← hx2, ← hg7]; simp
 have B7 : Blk x3 g7 #[.int .i64 0, .int .i64 0, .int .i64 0, .int .i64 0, .int .i64 0, .int .i64 0, .int .i64 0, .int .i64 0, .int .i64 0, .int .i64 0, .int .i64 0, .int .i64 0, .int .i64 0, .int .i64 0, .int .i64 0, .int .i64 0, .int .i64 0, .int .i64 0, .int .i64 0, .int .i64 0, .int .i64 0, .int .i64 0] 69 := by rw [← hx3, ← hx2, ← hg7]; exact (Blk.new x1 _ _).alloc _
 have B8 : Blk x3 g8 z120 78 := by rw [← hx3, ← hg8]; exact Blk.new x2 _ _
 have T7 := hide (blk_there B7 xs.toArray.size (by simp [unhide HXL]))
 obtain ⟨x4, hx4⟩ : ∃ q, x3.setCells g7 0 xs = q := ⟨_, rfl⟩
 have O4 : Only (fun x => x = g7) x3 x4 := by rw [← hx4]; exact only_cells g7 0 xs rfl
 have C7 : Blk x4 g7 xs.toArray 69 := by rw [← hx4]; exact setCells_all B7 xs (by simp [unhide HXL])
 have C8 := B8.only O4 (by omega)
 have T8 := hide (blk_there C8 bs.toArray.size (by simp [unhide HBL]; rfl))
 obtain ⟨x5, hx5⟩ : ∃ q, x4.setCells g8 0 bs = q := ⟨_, rfl⟩
 have O5 : Only (fun x => x = g8) x4 x5 := by rw [← hx5]; exact only_cells g8 0 bs rfl
 have D8 : Blk x5 g8 bs.toArray 78 := by rw [← hx5]; exact setCells_all C8 bs (by rw [unhide HBL]; rfl)
 have D7 := C7.only O5 (by omega)
 have R8 := hide (show ((x5.alloc (.cells #[.int .i64 0] 3)).alloc (.cells #[.int .i64 1] 3)).rangeAt g8 0 bs from blk_range ((D8.alloc _).alloc _))
 have HBL5 := hide (show Below x1.heap.size x1 x5 from by
  have h1 : Below x1.heap.size x1 x3 := by rw [← hx3, ← hx2]; exact ((Below.refl _ x1).alloc (Nat.le_refl _) _).alloc (by simp) _
  rw [← hx5, ← hx4]
  exact below_setCells (by omega) _ _ (below_setCells (by omega) _ _ h1))
 have X5 := hide (And.intro D7 D8)
 have h8s : g8 < x5.heap.size := D8.lt
 clear B7 B8 O4 C7 C8 O5 D8 D7
 gi_wp2_with (first | refine wpListIn_store_mid' rfl 69 (.tmp 7) (.tmp 16) rfl g7 0 xs.toArray rfl rfl (unhide T7) (by rw [sizeTree]; simp [unhide HXL]) (unhide HXO) ?_ | (rw [List.toList_toArray, hx4]; refine wpListIn_store_mid' rfl 78 (.tmp 8) (.tmp 17) rfl g8 0 bs.toArray rfl rfl (unhide T8) (by rw [sizeB]; simp [unhide HBL]) (unhide HBO) ?_) | refine wpListIn_load_mid' rfl 78 (.tmp 8) rfl g8 0 rfl _ _ (unhide R8) Tryz.underlying78 rfl (by rw [sizeB, unhide HBL]) ?_)
 obtain ⟨gn, hgn⟩ : ∃ q, x5.heap.size = q := ⟨_, rfl⟩
 obtain ⟨x7, hx7⟩ : ∃ q, (x5.alloc (.cells #[.int .i64 0] 3)).alloc (.cells #[.int .i64 1] 3) = q := ⟨_, rfl⟩
 have b7 : Blk x7 g7 xs.toArray 69 := by rw [← hx7]; exact ((unhide X5).1.alloc _).alloc _
 have bn : Blk x7 gn #[.int .i64 0] 3 := by rw [← hx7, ← hgn]; exact (Blk.new x5 _ _).alloc _
 have bm : Blk x7 (gn + 1) #[.int .i64 1] 3 := by
  rw [← hx7, ← hgn]
  have := Blk.new (x5.alloc (.cells #[.int .i64 0] 3)) 3 #[.int .i64 1]
  rwa [World.size_alloc] at this
 have be : Below x5.heap.size x5 x7 := by rw [← hx7]; exact ((Below.refl _ x5).alloc (Nat.le_refl _) _).alloc (by simp) _
 have hs7 : x7.heap.size = gn + 2 := by rw [← hx7, ← hgn]; simp
 rw [hgn, hx7]
 refine ⟨trivial, (callsIn_wide.2 (mapped_any bs x7)).mono ?_⟩
 rintro e w' ⟨rfl, hw'⟩
 obtain ⟨g9, hg9⟩ : ∃ q, x7.heap.size = q := ⟨_, rfl⟩
 rw [hg9]
 have b9 : Blk w' g9 bs.toArray 78 := by rw [hw', ← hg9]; exact Blk.new x7 _ _
 have hb8 : Below x7.heap.size x7 w' := by rw [hw']; exact (Below.refl _ x7).alloc (Nat.le_refl _) _
 have I0 := hide (show CI x5 g7 gn (gn + 1) xs 0 1 w' from ⟨b7.below hb8 b7.lt, bn.below hb8 bn.lt, bm.below hb8 bm.lt, be.trans (hb8.mono be.size)⟩)
 have hs8 : w'.heap.size = gn + 3 := by rw [hw', World.size_alloc, hs7]
 have H9 := hide b9
 clear b7 bn bm be hb8 b9 hw' hx7
 gi_wp2_with fail
 refine wpIn_rangeFunc_ownG rfl (by omega) (gf := 90) (lb := #[.pointer (some ⟨g9, 0, none⟩)]) rfl trivial (enters_of Tryz.func90 (by kernel_rfl) rfl)
  (unhide HMS g9 w' (unhide H9)) ks_t (fun W l o o' _ _ _ _ => ks_b W l o') (Below.refl _ _) (fun _ => rfl)
  (fun pre W => CI x5 g7 gn (gn + 1) xs (pre.length : Int) 1 W)
  (fun _ _ _ => False)
  (fun pre W W' row hs hg hr => hs.turn (by omega) hg hr)
  (fun _ _ _ _ _ hs _ _ => hs)
  (unhide I0)
  (fun x => { tmps := #[.pointer (some ⟨sb, 0, none⟩), .int .i64 ((V k).r : Int), undef, undef, .int .i64 0, .int .i64 0, .int .i64 0, .pointer (some ⟨g7, 0, none⟩), .pointer (some ⟨g8, 0, none⟩), .int .i64 0, .pointer (some ⟨gn, 0, none⟩), .pointer (some ⟨gn + 1, 0, none⟩), .tuple #[.agg xs.toArray, .agg bs.toArray, .int .i64 0], .pointer (some ⟨sb, 0, none⟩), .int .i64 ((V k).r : Int), .tuple #[.agg xs.toArray, .agg bs.toArray, .int .i64 0], .agg xs.toArray, .agg bs.toArray, .int .i64 0, .int .i64 0, .bool false, undef, .agg bs.toArray, .func (.func 90) #[] #[.pointer (some ⟨g9, 0, none⟩)], .int .i64 (x.1 : Int), .agg #[.string (vtD ((V k).e x.1)), .string (vtW ((V k).e x.1))], undef, undef, undef, undef, undef, undef, undef, undef, undef], defers := [] }) ?assign ?body ?done ?stop
 case assign =>
  intro l x W K hK
  gi_wp2
  exact hK
 case body =>
  rintro l pre x W hI hlt
  obtain ⟨b7, bn, bm, be⟩ := hI
  have c0 : W.cell? ⟨gn, 0, none⟩ = some (.int .i64 (pre.length : Int)) := bn.cell 0
  have f0 := bn.frozen 0
  have O1 := (Only.refl (fun x => x = gn) W).setCell ⟨gn, 0, none⟩ (.int .i64 ((pre.length : Int) + 1)) (fun _ => rfl)
  have FIN := hide (show CI x5 g7 gn (gn + 1) xs ((pre ++ [x]).length : Int) 1 (W.setCell ⟨gn, 0, none⟩ (.int .i64 ((pre.length : Int) + 1))) from ⟨b7.only O1 (by omega), by rw [List.length_append]; exact bn.set 0 (.int .i64 ((pre.length : Int) + 1)), bm.only O1 (by omega), be.setCell (p := ⟨gn, 0, none⟩) (by show x5.heap.size ≤ gn; omega) _⟩)
  have hpl : pre.length < 60 := hlt
  clear b7 bn bm be O1
  gi_wp2
  exact ⟨(KeepsOthers.setCell _ _ _).from _, (show W.heap.size ≤ _ from by simp), unhide FIN⟩
 case stop =>
  rintro D c pre W _ _ hh _
  exact hh.elim
 case done =>
  rintro D ys W hD hys hI hK
  subst hys
  obtain ⟨N, hN⟩ : ∃ q, (mpd (V k).e 60).length = q := ⟨_, rfl⟩
  rw [hN] at hI
  have HN := hide hN
  clear hN
  have R7 := hide (blk_range hI.b7)
  have HI := hide hI
  have HDW := hide (And.intro hD hK)
  clear hI hD hK I0 H9
  gi_wp2_with (refine wpListIn_load_mid' rfl 69 (.tmp 7) rfl g7 0 rfl _ _ (unhide R7) Tryz.underlying69 rfl (by rw [sizeTree, unhide HXL]) ?_)
  refine ⟨trivial, (callsIn_wide.2 (there_any xs W)).mono ?_⟩
  rintro e w2 ⟨rfl, hw2⟩
  obtain ⟨gt, hgt⟩ : ∃ q, W.heap.size = q := ⟨_, rfl⟩
  rw [hgt]
  have bt : Blk w2 gt xs.toArray 69 := by rw [hw2, ← hgt]; exact Blk.new W _ _
  have hb2 : Below W.heap.size W w2 := by rw [hw2]; exact (Below.refl _ W).alloc (Nat.le_refl _) _
  obtain ⟨a1, a2, a3, a4⟩ := unhide HI
  have hDl : D < W.heap.size := (Array.getElem?_eq_some_iff.1 (unhide HDW).2).1
  have I2 := hide (show CI x5 g7 gn (gn + 1) xs (N : Int) 1 w2 ∧ w2.heap[D]? = some (.deferred (some [])) from ⟨⟨a1.below hb2 a1.lt, a2.below hb2 a2.lt, a3.below hb2 a3.lt, a4.trans (hb2.mono a4.size)⟩, (hb2.block D hDl).trans (unhide HDW).2⟩)
  have hs2 : w2.heap.size = gt + 1 := by rw [hw2, World.size_alloc, hgt]
  have hx52 : x5.heap.size ≤ w2.heap.size := Nat.le_trans a4.size hb2.size
  have HT := hide bt
  have hgtl : gn + 1 < gt := by rw [← hgt]; exact a3.lt
  clear a1 a2 a3 a4 bt hb2 hw2 HI R7
  gi_wp2_with fail
  refine wpIn_rangeFunc_ownG rfl (by omega) (gf := 91) (lb := #[.pointer (some ⟨gt, 0, none⟩)]) rfl trivial (enters_of Tryz.func91 (by kernel_rfl) rfl)
   (unhide HTS gt w2 (unhide HT)) kb_t (kb_b (by omega)) (Below.refl _ _) (fun _ => rfl)
   (fun pre W => CI x5 g7 gn (gn + 1) xs (N : Int) (1 + (pre.length : Int)) W ∧ W.heap[D]? = some (.deferred (some [])) ∧ W.heap[gt]? = w2.heap[gt]?)
   (fun _ _ _ => False)
   (fun pre W W' row hs hg hr => ⟨hs.1.turn hx52 hg hr, (hg.block D (Array.getElem?_eq_some_iff.1 hs.2.1).1 (fun e => by have := (hr D e.symm).1; omega)).trans hs.2.1, (hg.block gt (Array.getElem?_eq_some_iff.1 (hs.2.2.trans (unhide HT))).1 (fun e => by have := (hr gt e.symm).1; omega)).trans hs.2.2⟩)
   (fun _ _ _ _ _ hs _ _ => hs)
   ⟨(unhide I2).1, (unhide I2).2, rfl⟩
   (fun x => { tmps := #[.pointer (some ⟨sb, 0, none⟩), .int .i64 ((V k).r : Int), undef, undef, .int .i64 0, .int .i64 0, .int .i64 0, .pointer (some ⟨g7, 0, none⟩), .pointer (some ⟨g8, 0, none⟩), .int .i64 0, .pointer (some ⟨gn, 0, none⟩), .pointer (some ⟨gn + 1, 0, none⟩), .tuple #[.agg xs.toArray, .agg bs.toArray, .int .i64 0], .pointer (some ⟨sb, 0, none⟩), .int .i64 ((V k).r : Int), .tuple #[.agg xs.toArray, .agg bs.toArray, .int .i64 0], .agg xs.toArray, .agg bs.toArray, .int .i64 0, .int .i64 0, .bool false, undef, .agg bs.toArray, .func (.func 90) #[] #[.pointer (some ⟨g9, 0, none⟩)], undef, undef, undef, undef, .agg xs.toArray, .func (.func 91) #[] #[.pointer (some ⟨gt, 0, none⟩)], .int .i64 (x.1 : Int), undef, undef, undef, undef], defers := [] }) ?assign ?body ?done ?stop
  case assign =>
   intro l x W K hK
   gi_wp2
   exact hK
  case body =>
   rintro l pre x W3 ⟨⟨b7, bn, bm, be⟩, hd3, ht3⟩ hlt
   have c0 : W3.cell? ⟨gn + 1, 0, none⟩ = some (.int .i64 (1 + (pre.length : Int))) := bm.cell 0
   have f0 := bm.frozen 0
   have hpl : pre.length < 20 := hlt
   have hwr : IntKind.i64.wrap (1 + (pre.length : Int) + 1) = 1 + ((pre ++ [x]).length : Int) := by
    rw [List.length_append]
    rw [show (1 + (pre.length : Int) + 1) = 1 + ((pre.length + [x].length : Nat) : Int) by simp; omega]
    exact wrapI_eq _ (by omega) (by simp; omega)
   obtain ⟨pl, hpl2⟩ : ∃ q, 1 + ((pre ++ [x]).length : Int) = q := ⟨_, rfl⟩
   have O1 := (Only.refl (fun x => x = gn + 1) W3).setCell ⟨gn + 1, 0, none⟩ (.int .i64 pl) (fun _ => rfl)
   have hgtn : gt ≠ gn + 1 := by omega
   have FIN := hide (show CI x5 g7 gn (gn + 1) xs (N : Int) (1 + ((pre ++ [x]).length : Int)) (W3.setCell ⟨gn + 1, 0, none⟩ (.int .i64 pl)) ∧ (W3.setCell ⟨gn + 1, 0, none⟩ (.int .i64 pl)).heap[D]? = some (.deferred (some [])) ∧ (W3.setCell ⟨gn + 1, 0, none⟩ (.int .i64 pl)).heap[gt]? = w2.heap[gt]? from by
    refine ⟨⟨b7.only O1 (by omega), bn.only O1 (by omega), by rw [hpl2]; exact bm.set 0 (.int .i64 pl), be.setCell (p := ⟨gn + 1, 0, none⟩) (by show x5.heap.size ≤ gn + 1; omega) _⟩, ?_, ?_⟩
    ·exact (O1.2 D (Array.getElem?_eq_some_iff.1 hd3).1 (fun q => by rw [q] at hd3; exact absurd (hd3.symm.trans bm) (by simp))).trans hd3
    ·exact (O1.2 gt (Array.getElem?_eq_some_iff.1 (ht3.trans (unhide HT))).1 hgtn).trans ht3)
   have HKB := hide (show (W3.setCell ⟨gn + 1, 0, none⟩ (.int .i64 pl)).heap[gt]? = W3.heap[gt]? from O1.2 gt (Array.getElem?_eq_some_iff.1 (ht3.trans (unhide HT))).1 hgtn)
   rw [hpl2] at hwr
   clear b7 bn bm be O1 hd3 ht3 hpl2
   gi_wp2
   exact ⟨(KeepsOthers.setCell _ _ _).from _, ⟨unhide HKB, by simp⟩, unhide FIN⟩
  case stop =>
   rintro D c pre W _ _ hh _
   exact hh.elim
  case done =>
   rintro D2 ys W5 hD2 hys hI5 hK5
   subst hys
   obtain ⟨P, hP⟩ : ∃ q, 1 + ((thr (V k).lf 20).length : Int) = q := ⟨_, rfl⟩
   rw [hP] at hI5
   obtain ⟨⟨b7, bn, bm, be⟩, hd5, ht5⟩ := hI5
   have c0 : W5.cell? ⟨gn, 0, none⟩ = some (.int .i64 (N : Int)) := bn.cell 0
   have c1 : W5.cell? ⟨gn + 1, 0, none⟩ = some (.int .i64 P) := bm.cell 0
   have c0d : W5.drew.cell? ⟨gn, 0, none⟩ = some (.int .i64 (N : Int)) := c0
   have c1d : W5.drew.cell? ⟨gn + 1, 0, none⟩ = some (.int .i64 P) := c1
   have hK5d : W5.drew.heap[D2]? = some (.deferred (some [])) := hK5
   have hDD : D ≠ D2 := by have := (unhide HDW).1; have h2 : D < W.heap.size := hDl; omega
   have hd6 : (W5.drew.putObj D2 (.deferred none)).heap[D]? = some (.deferred (some [])) := (World.putObj_heap_other hDD).trans hd5
   have HBZ := hide (show Below x1.heap.size x1 ((W5.drew.putObj D2 (.deferred none)).putObj D (.deferred none)) from by
    have h1 := (unhide HBL5).size
    have h2 := (unhide HDW).1
    have h3 : Below x1.heap.size x1 W5 := (unhide HBL5).trans (be.mono h1)
    have h4 := h3.trans (((Below.refl x1.heap.size W5)).drew)
    have h5 := h4.trans (belowK_b (w := x1) (Nat.le_refl _) W5.drew D2 _ (.deferred none) (by omega) hK5d rfl rfl)
    exact h5.trans (belowK_b (w := x1) (Nat.le_refl _) _ D _ (.deferred none) (by omega) hd6 rfl rfl))
   have HPP := hide hP
   clear b7 bn bm be hd5 ht5 hK5 c0 c1 hP
   gi_wp2
   refine wpIn_region_any (by kernel_rfl) ?_
   change wpAnyIn _ _ _ _ _ _ _ _ _ W5.drew
   refine wpAnyIn_ready (rs := [0, 1]) (by kernel_rfl) (by simp) ?_
   refine AllReadyIn.cons rfl (fun K hK => ?o1) (AllReadyIn.cons rfl (fun K hK => ?o2) AllReadyIn.nil)
   case o1 =>
    simp only [List.getElem_toArray, List.getElem_cons_zero]
    go_simp
    refine hK _ _ ?_
    clear hK K
    refine wpAnyIn_ready (rs := [1, 2]) (by kernel_rfl) (by simp) ?_
    refine AllReadyIn.cons rfl (fun K hK => ?o3) (AllReadyIn.cons rfl (fun K hK => ?o4) AllReadyIn.nil)
    case o3 =>
     simp only [List.getElem_toArray, List.getElem_cons_succ, List.getElem_cons_zero]
     go_simp
     refine hK _ _ ?_
     clear hK K
     refine wpAnyIn_ready (rs := [2]) (by kernel_rfl) (by simp) ?_
     refine AllReadyIn.cons rfl (fun K hK => ?o5) AllReadyIn.nil
     case o5 =>
      simp only [List.getElem_toArray, List.getElem_cons_succ, List.getElem_cons_zero]
      go_simp
      refine hK _ _ ?_
      clear hK K
      refine wpAnyIn_ready (rs := [3]) (by kernel_rfl) (by simp) ?_
      refine AllReadyIn.cons rfl (fun K hK => ?o6) AllReadyIn.nil
      case o6 =>
       simp only [List.getElem_toArray, List.getElem_cons_succ, List.getElem_cons_zero]
       go_simp
       refine hK _ _ ?_
       clear hK K
       refine wpAnyIn_ready (rs := [4]) (by kernel_rfl) (by simp) ?_
       refine AllReadyIn.cons rfl (fun K hK => ?o7) AllReadyIn.nil
       case o7 =>
        simp only [List.getElem_toArray, List.getElem_cons_succ, List.getElem_cons_zero]
        go_simp
        refine hK _ _ ?_
        clear hK K
        refine wpAnyIn_done (by kernel_rfl) ?_ _
        gi_wp2
        refine ⟨by simp, .inl ⟨_, _, rfl, run_takeDeferred hK5d, ?_⟩⟩
        refine ⟨by simp, .inl ⟨_, _, rfl, run_takeDeferred hd6, ?_⟩⟩
        obtain ⟨S', k1, k2, k3, k4⟩ := unhide X1
        exact ⟨_, results_t3 (p := 4) (q := 5) (r := 6) rfl _ _ _, by rw [unhide HN, unhide HPP]; rfl, S', k1.below (unhide HBZ), k2, k3, k4.trans (Only.of_below (P := fun x => ¬ X x) (unhide HBZ)) (fun _ _ q => q)⟩
    case o4 =>
     simp only [List.getElem_toArray, List.getElem_cons_succ, List.getElem_cons_zero]
     go_simp
     refine hK _ _ ?_
     clear hK K
     refine wpAnyIn_ready (rs := [1]) (by kernel_rfl) (by simp) ?_
     refine AllReadyIn.cons rfl (fun K hK => ?o8) AllReadyIn.nil
     case o8 =>
      simp only [List.getElem_toArray, List.getElem_cons_succ, List.getElem_cons_zero]
      go_simp
      refine hK _ _ ?_
      clear hK K
      refine wpAnyIn_ready (rs := [3]) (by kernel_rfl) (by simp) ?_
      refine AllReadyIn.cons rfl (fun K hK => ?o9) AllReadyIn.nil
      case o9 =>
       simp only [List.getElem_toArray, List.getElem_cons_succ, List.getElem_cons_zero]
       go_simp
       refine hK _ _ ?_
       clear hK K
       refine wpAnyIn_ready (rs := [4]) (by kernel_rfl) (by simp) ?_
       refine AllReadyIn.cons rfl (fun K hK => ?o10) AllReadyIn.nil
       case o10 =>
        simp only [List.getElem_toArray, List.getElem_cons_succ, List.getElem_cons_zero]
        go_simp
        refine hK _ _ ?_
        clear hK K
        refine wpAnyIn_done (by kernel_rfl) ?_ _
        gi_wp2
        refine ⟨by simp, .inl ⟨_, _, rfl, run_takeDeferred hK5d, ?_⟩⟩
        refine ⟨by simp, .inl ⟨_, _, rfl, run_takeDeferred hd6, ?_⟩⟩
        obtain ⟨S', k1, k2, k3, k4⟩ := unhide X1
        exact ⟨_, results_t3 (p := 4) (q := 5) (r := 6) rfl _ _ _, by rw [unhide HN, unhide HPP]; rfl, S', k1.below (unhide HBZ), k2, k3, k4.trans (Only.of_below (P := fun x => ¬ X x) (unhide HBZ)) (fun _ _ q => q)⟩
   case o2 =>
    simp only [List.getElem_toArray, List.getElem_cons_succ, List.getElem_cons_zero]
    go_simp
    refine hK _ _ ?_
    clear hK K
    refine wpAnyIn_ready (rs := [0]) (by kernel_rfl) (by simp) ?_
    refine AllReadyIn.cons rfl (fun K hK => ?o11) AllReadyIn.nil
    case o11 =>
     simp only [List.getElem_toArray, List.getElem_cons_zero]
     go_simp
     refine hK _ _ ?_
     clear hK K
     refine wpAnyIn_ready (rs := [2]) (by kernel_rfl) (by simp) ?_
     refine AllReadyIn.cons rfl (fun K hK => ?o12) AllReadyIn.nil
     case o12 =>
      simp only [List.getElem_toArray, List.getElem_cons_succ, List.getElem_cons_zero]
      go_simp
      refine hK _ _ ?_
      clear hK K
      refine wpAnyIn_ready (rs := [3]) (by kernel_rfl) (by simp) ?_
      refine AllReadyIn.cons rfl (fun K hK => ?o13) AllReadyIn.nil
      case o13 =>
       simp only [List.getElem_toArray, List.getElem_cons_succ, List.getElem_cons_zero]
       go_simp
       refine hK _ _ ?_
       clear hK K
       refine wpAnyIn_ready (rs := [4]) (by kernel_rfl) (by simp) ?_
       refine AllReadyIn.cons rfl (fun K hK => ?o14) AllReadyIn.nil
       case o14 =>
        simp only [List.getElem_toArray, List.getElem_cons_succ, List.getElem_cons_zero]
        go_simp
        refine hK _ _ ?_
        clear hK K
        refine wpAnyIn_done (by kernel_rfl) ?_ _
        gi_wp2
        refine ⟨by simp, .inl ⟨_, _, rfl, run_takeDeferred hK5d, ?_⟩⟩
        refine ⟨by simp, .inl ⟨_, _, rfl, run_takeDeferred hd6, ?_⟩⟩
        obtain ⟨S', k1, k2, k3, k4⟩ := unhide X1
        exact ⟨_, results_t3 (p := 4) (q := 5) (r := 6) rfl _ _ _, by rw [unhide HN, unhide HPP]; rfl, S', k1.below (unhide HBZ), k2, k3, k4.trans (Only.of_below (P := fun x => ¬ X x) (unhide HBZ)) (fun _ _ q => q)⟩
theorem sMapped {w0 w : World} {b jb pb mb sb : Nat} {X : Nat → Prop} {n : Nat} {S : PS} {L : List ByteArray} {A : List (Nat × Nat)} {hn : Nat} {Mw Mn : List ByteArray} {T : Nat → Bool} (h : MG w0 w b jb pb mb sb X n S L A hn Mw Mn T) {m : Nat} {V : Nat → Vol} (hv : VS Mn n m T V) (k : Nat) (hk : k < m) : Calls Tryz.prog 11 #[.pointer (some ⟨sb, 0, none⟩), .int .i64 ((V k).r : Int)] w fun e w' => e = .returned (.tuple #[.int .i64 ((mpd (V k).e 60).length : Int), .int .i64 (1 + ((thr (V k).lf 20).length : Int)), .int .i64 0]) ∧ MKept w0 w b jb pb mb sb X n S L A hn Mw Mn T w' := (callsIn_wide (n := 6)).1 (mapped_in h hv k hk)
end Go.Proofs.YtiellebdliifdaaGreatDoor
namespace Go.Proofs.YtiellebdliifdaaGreatDoor
open Go.RowKit Go.Maps Go.Sort Go.Shelf
set_option maxRecDepth 100000
structure ZB (bs : List Value) : Prop where
 len : bs.length = 120
 one : bs.toArray.all (·.oneCell') = true
 built : Tryz.prog.built 78 [] = some bs.toArray
theorem zb_ok : ZB (List.replicate 120 (.string ⟨#[]⟩)) := ⟨List.length_replicate .., by kernel_rfl, by kernel_rfl⟩
set_option maxHeartbeats 4000000 in
theorem readAll_bad {w0 w : World} {b jb pb mb sb : Nat} {X : Nat → Prop} {n : Nat} {S : PS} {L : List ByteArray} {A : List (Nat × Nat)} {hn : Nat} {Mw Mn : List ByteArray} {T : Nat → Bool} (h : MG w0 w b jb pb mb sb X n S L A hn Mw Mn T) (hc : S.op = false) {zs bs : List Value} (hz : ZT zs) (hbs : ZB bs) {m : Nat} {V : Nat → Vol} (hv : VS Mn n m T V) (r : Int) (hr : ∀ k, k < m → ((V k).r : Int) ≠ r) : Calls Tryz.prog 34 #[.pointer (some ⟨sb, 0, none⟩), .int .i64 r] w fun e w' => e = .returned (.tuple #[.agg zs.toArray, .agg bs.toArray, .int .i64 102]) ∧ MKept w0 w b jb pb mb sb X n S L A hn Mw Mn T w' := by
 have hzb := zeroB
 have HX := hide (show ∀ x, X x → x < w.heap.size from fun x q => h.bg.pk.lt x q)
 have HXM := hide (And.intro h.bg.xm h.xs)
 obtain ⟨g0, hg0⟩ : ∃ q, w.heap.size = q := ⟨_, rfl⟩
 obtain ⟨y0, hy0⟩ : ∃ q, w.alloc (.cells #[.pointer (some ⟨sb, 0, none⟩)] 28) = q := ⟨_, rfl⟩
 obtain ⟨g1, hg1⟩ : ∃ q, y0.heap.size = q := ⟨_, rfl⟩
 obtain ⟨y1, hy1⟩ : ∃ q, y0.alloc (.cells #[.int .i64 0, .int .i64 0, .int .i64 0, .int .i64 0, .int .i64 0, .int .i64 0, .int .i64 0, .int .i64 0, .int .i64 0, .int .i64 0, .int .i64 0, .int .i64 0, .int .i64 0, .int .i64 0, .int .i64 0, .int .i64 0, .int .i64 0, .int .i64 0, .int .i64 0, .int .i64 0, .int .i64 0, .int .i64 0] 69) = q := ⟨_, rfl⟩
 obtain ⟨g2, hg2⟩ : ∃ q, y1.heap.size = q := ⟨_, rfl⟩
 obtain ⟨y2, hy2⟩ : ∃ q, y1.alloc (.cells z120 78) = q := ⟨_, rfl⟩
 obtain ⟨g3, hg3⟩ : ∃ q, y2.heap.size = q := ⟨_, rfl⟩
 obtain ⟨y3, hy3⟩ : ∃ q, y2.alloc (.cells #[.int .i64 0] 35) = q := ⟨_, rfl⟩
 have N0 := h.new hg0
 have G0 := h.add _ hy0 hg0
 have N1 := G0.new hg1
 have G1 := G0.add _ hy1 hg1
 have N2 := G1.new hg2
 have G2 := G1.add _ hy2 hg2
 have N3 := G2.new hg3
 have G3 := G2.add _ hy3 hg3
 have O3 : Only (fun x => ¬ X x) w y3 := by rw [← hy3, ← hy2, ← hy1, ← hy0]; exact ((((Only.refl _ w).alloc _).alloc _).alloc _).alloc _
 have B0 : Blk y3 g0 #[.pointer (some ⟨sb, 0, none⟩)] 28 := by rw [← hy3, ← hy2, ← hy1, ← hy0, ← hg0]; exact (((Blk.new w _ _).alloc _).alloc _).alloc _
 have B1 : Blk y3 g1 #[.int .i64 0, .int .i64 0, .int .i64 0, .int .i64 0, .int .i64 0, .int .i64 0, .int .i64 0, .int .i64 0, .int .i64 0, .int .i64 0, .int .i64 0, .int .i64 0, .int .i64 0, .int .i64 0, .int .i64 0, .int .i64 0, .int .i64 0, .int .i64 0, .int .i64 0, .int .i64 0, .int .i64 0, .int .i64 0] 69 := by rw [← hy3, ← hy2, ← hy1, ← hg1]; exact ((Blk.new y0 _ _).alloc _).alloc _
 have B2 : Blk y3 g2 z120 78 := by rw [← hy3, ← hy2, ← hg2]; exact (Blk.new y1 _ _).alloc _
 have B3 : Blk y3 g3 #[.int .i64 0] 35 := by rw [← hy3, ← hg3]; exact Blk.new y2 _ _
 have e1 : g0 < g1 := by rw [← hg1, ← hy0, ← hg0]; simp
 have e2 : g1 < g2 := by rw [← hg2, ← hy1, ← hg1]; simp
 have e3 : g2 < g3 := by rw [← hg3, ← hy2, ← hg2]; simp
 have c0 : y3.cell? ⟨g0, 0, none⟩ = some (.pointer (some ⟨sb, 0, none⟩)) := B0.cell 0
 have HFI := hide (sFind_bad G3 hc hz hv r hr)
 have X3 := hide (And.intro B1 (And.intro B2 (And.intro B3 O3)))
 have HE := hide (And.intro e1 (And.intro e2 e3))
 have HNN := hide (And.intro N0 (And.intro N1 (And.intro N2 N3)))
 have HZ := hide (And.intro hz hbs)
 clear h G0 G1 G2 G3 e1 e2 e3 O3 B0 B1 B2 B3 N0 N1 N2 N3 hv hr
 go_enter Tryz.func34, Tryz.ntmps34
 go_wp2_with fail
 refine (unhide HFI).mono ?_
 rintro e x2 ⟨rfl, S2, k1, k2, k3, k4⟩
 obtain ⟨B1, B2, B3, O3⟩ := unhide X3
 obtain ⟨e1, e2, e3⟩ := unhide HE
 obtain ⟨N0, N1, N2, N3⟩ := unhide HNN
 have n1 := B1.only k4 (fun q => q (.inl (.inl (.inr rfl))))
 have n2 := B2.only k4 (fun q => q (.inl (.inr rfl)))
 have n3 := B3.only k4 (fun q => q (.inr rfl))
 have O2 : Only (fun x => ¬ X x) w x2 := O3.trans k4 (fun _ _ q r => q (.inl (.inl (.inl (.inl r)))))
 obtain ⟨g7, hg7⟩ : ∃ q, x2.heap.size = q := ⟨_, rfl⟩
 have h37 : g3 < g7 := by rw [← hg7]; exact n3.lt
 obtain ⟨x3, hx3⟩ : ∃ q, x2.alloc (.cells #[.int .i64 0, .int .i64 0, .int .i64 0, .int .i64 0, .int .i64 0, .int .i64 0, .int .i64 0, .int .i64 0, .int .i64 0, .int .i64 0, .int .i64 0, .int .i64 0, .int .i64 0, .int .i64 0, .int .i64 0, .int .i64 0, .int .i64 0, .int .i64 0, .int .i64 0, .int .i64 0, .int .i64 0, .int .i64 0] 69) = q := ⟨_, rfl⟩
 have hb3 : Below x2.heap.size x2 x3 := by rw [← hx3]; exact (Below.refl _ x2).alloc (Nat.le_refl _) _
 have N7 := k1.new hg7
 have G3 := k1.add _ hx3 hg7
 have B7 : Blk x3 g7 #[.int .i64 0, .int .i64 0, .int .i64 0, .int .i64 0, .int .i64 0, .int .i64 0, .int .i64 0, .int .i64 0, .int .i64 0, .int .i64 0, .int .i64 0, .int .i64 0, .int .i64 0, .int .i64 0, .int .i64 0, .int .i64 0, .int .i64 0, .int .i64 0, .int .i64 0, .int .i64 0, .int .i64 0, .int .i64 0] 69 := by rw [← hx3, ← hg7]; exact Blk.new x2 _ _
 obtain ⟨x4, hx4⟩ : ∃ q, x3.setCells g7 0 zs = q := ⟨_, rfl⟩
 have O4 : Only (fun x => x = g7) x3 x4 := by rw [← hx4]; exact only_cells g7 0 zs rfl
 have G4 := G3.poke (.inr rfl) N7.2.1 N7.2.2.1 N7.2.2.2 O4
 have m1 := (n1.below hb3 n1.lt).only O4 (fun q => by omega)
 have m2 := (n2.below hb3 n2.lt).only O4 (fun q => by omega)
 have m3 := (n3.below hb3 n3.lt).only O4 (fun q => by omega)
 obtain ⟨x5, hx5⟩ : ∃ q, x4.setCells g1 0 zs = q := ⟨_, rfl⟩
 have O5 : Only (fun x => x = g1) x4 x5 := by rw [← hx5]; exact only_cells g1 0 zs rfl
 have G5 := G4.poke (.inl (.inl (.inl (.inr rfl)))) N1.2.1 N1.2.2.1 N1.2.2.2 O5
 have p1 : Blk x5 g1 zs.toArray 69 := by rw [← hx5]; exact setCells_all m1 zs (by rw [hz.len]; rfl)
 have p2 := m2.only O5 (fun q => by omega)
 have p3 := m3.only O5 (fun q => by omega)
 obtain ⟨x6, hx6⟩ : ∃ q, x5.setCells g2 0 bs = q := ⟨_, rfl⟩
 have O6 : Only (fun x => x = g2) x5 x6 := by rw [← hx6]; exact only_cells g2 0 bs rfl
 have G6 := G5.poke (.inl (.inl (.inr rfl))) N2.2.1 N2.2.2.1 N2.2.2.2 O6
 have q1 := p1.only O6 (fun q => by omega)
 have q2 : Blk x6 g2 bs.toArray 78 := by rw [← hx6]; exact setCells_all p2 bs (by rw [hbs.len]; rfl)
 have q3 := p3.only O6 (fun q => by omega)
 obtain ⟨x7, hx7⟩ : ∃ q, x6.setCell ⟨g3, 0, none⟩ (.int .i64 102) = q := ⟨_, rfl⟩
 have O7 : Only (fun x => x = g3) x6 x7 := by rw [← hx7]; exact (Only.refl _ x6).setCell _ _ (fun _ => rfl)
 have G7 := G6.poke (.inl (.inr rfl)) N3.2.1 N3.2.2.1 N3.2.2.2 O7
 have r1 := q1.only O7 (fun q => by omega)
 have r2 := q2.only O7 (fun q => by omega)
 have r3 : Blk x7 g3 #[.int .i64 102] 35 := by rw [← hx7]; exact q3.set 0 (.int .i64 102)
 have T7 := hide (blk_there B7 zs.toArray.size (by simp [hz.len]))
 have T1 := hide (blk_there m1 zs.toArray.size (by simp [hz.len]))
 have T2 := hide (blk_there p2 bs.toArray.size (by simp [hbs.len]; rfl))
 have f0 : x6.cell? ⟨g3, 0, none⟩ = some (.int .i64 0) := q3.cell 0
 have f1 := q3.frozen 0
 have L1 := hide (iload_blk 69 _ r1 Tryz.underlying69 rfl (by rw [sizeTree]; simp [hz.len]))
 have L2 := hide (iload_blk 78 _ r2 Tryz.underlying78 rfl (by rw [sizeB]; simp [hbs.len]))
 have L3 := hide (show (loadVar 35 ⟨g3, 0, none⟩).run Tryz.prog x7 = .ok (.int .i64 102) x7 from by have rc : x7.cell? ⟨g3, 0, none⟩ = some (.int .i64 102) := r3.cell 0; go_simp)
 have FIN := hide (show MKept w0 w b jb pb mb sb X n S L A hn Mw Mn T x7 from ⟨S2, G7.less (fun _ q => .inl (.inl (.inl (.inl (.inl q))))) (unhide HXM).1 (unhide HXM).2, k2, k3, ((((O2.trans (Only.of_below (P := fun x => ¬ X x) hb3) (fun _ _ q => q)).trans O4 (fun x _ q s => by have := unhide HX x s; omega)).trans O5 (fun x _ q s => by have := unhide HX x s; omega)).trans O6 (fun x _ q s => by have := unhide HX x s; omega)).trans O7 (fun x _ q s => by have := unhide HX x s; omega)⟩)
 clear B1 B2 B3 O3 e1 e2 e3 N0 N1 N2 N3 n1 n2 n3 O2 hb3 N7 G3 B7 O4 G4 m1 m2 m3 O5 G5 p1 p2 p3 O6 G6 q1 q2 q3 O7 G7 r1 r2 r3 k1 k2 k3 k4 X3 HE HNN HFI c0
 go_wp2_with (first | refine wpList_build0 (unhide HZ).1.built rfl rfl ?_ | refine wpList_build0 (unhide HZ).2.built rfl rfl ?_ | refine wpList_store_mid rfl 69 (.tmp 7) (.tmp 17) rfl g7 0 zs.toArray rfl rfl (unhide T7) (by rw [sizeTree]; simp [(unhide HZ).1.len]) (unhide HZ).1.one ?_ | ((try rw [List.toList_toArray]); (try rw [hx4]); refine wpList_store_mid rfl 69 (.tmp 4) (.tmp 21) rfl g1 0 zs.toArray rfl rfl (unhide T1) (by rw [sizeTree]; simp [(unhide HZ).1.len]) (unhide HZ).1.one ?_) | ((try rw [List.toList_toArray]); (try rw [hx5]); refine wpList_store_mid rfl 78 (.tmp 5) (.tmp 22) rfl g2 0 bs.toArray rfl rfl (unhide T2) (by rw [sizeB]; simp [(unhide HZ).2.len]) (unhide HZ).2.one ?_) | rw [List.toList_toArray, hx6])
 (try rw [List.toList_toArray])
 (try rw [hx6])
 (try rw [hx7])
 exact bodyPost_ret (v := .tuple #[.agg zs.toArray, .agg bs.toArray, .int .i64 102]) (results_cell3 (p := 4) (q := 5) (r := 6) rfl _ _ _ ⟨g1, 0, none⟩ ⟨g2, 0, none⟩ ⟨g3, 0, none⟩ rfl rfl rfl _ _ _ (unhide L1) (unhide L2) (unhide L3)) rfl ⟨rfl, unhide FIN⟩
end Go.Proofs.YtiellebdliifdaaGreatDoor
