import Derived.Test.YtiellebdliifdaaGreatDoorMt32
import Derived.Test.YtiellebdliifdaaGreatDoorMt35
import Derived.Deep.WholeRow
namespace Go.Proofs.YtiellebdliifdaaGreatDoor
open Go.RowKit Go.Shelf
attribute [local go_sem] Oper.semAt_some
theorem wpListIn_store_mid' {F : Fence} {n : Nat} {ops : Array Oper} {rest : List Oper} {op : Oper} {a : Act} {w : World} {Q : Exit → Act → World → Prop} (hgd : op.guard = none) (ty : TypeId) (x y : Operand) (ho : op.op = .store ty x y)
  (b o : Nat) (cells : Array Value) (hx : a.eval x = .pointer (some ⟨b, o, none⟩)) (hy : a.eval y = .agg cells) (ht : w.there b o cells.size) (hi : (Tryz.prog.info? ty).map (·.size) = some cells.size) (h1 : cells.all (·.oneCell') = true)
  (h : wpListIn F n Tryz.prog ops Q rest (a.put op.dst undef) (w.setCells b o cells.toList)) : wpListIn F n Tryz.prog ops Q (op :: rest) a w := by
 refine wpListIn_plain hgd fun K hK => ?_
 have hrun := run_storeAt_mid w b o ty cells ht hi h1
 unfold Oper.wpIn
 refine ⟨?_, ?_⟩
 ·simp [Oper.about, ho]
 ·rw [Oper.semAt_plain F _ _ (by rw [ho]; intro c hc'; cases hc')]
  simp [execOp, ho, hx, hy, hrun, Result.andThen]
  exact hK _ _ h
theorem zeroB : ∀ w, (zeroValue 78).run Tryz.prog w = .ok (.agg z120) w := (zero_of_info (P := Tryz.prog) (t := 78) (v := .agg z120) (n := 120) (by kernel_rfl)).1
theorem sizeB : (Tryz.prog.info? 78).map (·.size) = some 120 := by kernel_rfl
theorem results_cell3 {fn : Func} {p q r : Tmp} {t1 t2 t3 : TypeId} (h : fn.results = #[.cell p t1, .cell q t2, .cell r t3]) (tmps : Array Value) (P : Program) (w : World) (a1 a2 a3 : Addr) (h1 : tmps.getD p undef = .pointer (some a1)) (h2 : tmps.getD q undef = .pointer (some a2)) (h3 : tmps.getD r undef = .pointer (some a3)) (v1 v2 v3 : Value) (l1 : (loadVar t1 a1).run P w = .ok v1 w) (l2 : (loadVar t2 a2).run P w = .ok v2 w) (l3 : (loadVar t3 a3).run P w = .ok v3 w) :
  (results fn tmps).run P w = .ok (.tuple #[v1, v2, v3]) w := by
 have h1' : tmps[p]?.getD undef = .pointer (some a1) := by simpa using h1
 have h2' : tmps[q]?.getD undef = .pointer (some a2) := by simpa using h2
 have h3' : tmps[r]?.getD undef = .pointer (some a3) := by simpa using h3
 simp only [results, h]
 simp [h1', h2', h3', asAddr, l1, l2, l3]
theorem wpIn_load_at {F : Fence} {n : Nat} {op : Oper} {a : Act} {w : World} {K : Act → World → Prop} {Q : Exit → Act → World → Prop} (ty : TypeId) (x : Operand) (ho : op.op = .load ty x)
  (b o : Nat) (hx : a.eval x = .pointer (some ⟨b, o, none⟩)) (cs : List Value) (d : TypeDesc) (hc : w.rangeAt b o cs) (hu : Tryz.prog.underlying ty = some d) (hd : d.isRow = true) (hi : (Tryz.prog.info? ty).map (·.size) = some cs.length)
  (h : K (a.put op.dst (.agg cs.toArray)) w) : op.wpIn F n Tryz.prog a w K Q := by
 have hrun := run_loadAt_mid w b o ty cs d hc hu hd hi
 unfold Oper.wpIn
 refine ⟨?_, ?_⟩
 ·simp [Oper.about, ho]
 ·rw [Oper.semAt_plain F _ _ (by rw [ho]; intro c hc'; cases hc')]
  simp [execOp, ho, hx, hrun, Result.andThen]
  exact h
theorem wpIn_store_at {F : Fence} {n : Nat} {op : Oper} {a : Act} {w : World} {K : Act → World → Prop} {Q : Exit → Act → World → Prop} (ty : TypeId) (x y : Operand) (ho : op.op = .store ty x y)
  (b o : Nat) (cells : Array Value) (hx : a.eval x = .pointer (some ⟨b, o, none⟩)) (hy : a.eval y = .agg cells) (ht : w.there b o cells.size) (hi : (Tryz.prog.info? ty).map (·.size) = some cells.size) (h1 : cells.all (·.oneCell') = true)
  (h : K (a.put op.dst undef) (w.setCells b o cells.toList)) : op.wpIn F n Tryz.prog a w K Q := by
 have hrun := run_storeAt_mid w b o ty cells ht hi h1
 unfold Oper.wpIn
 refine ⟨?_, ?_⟩
 ·simp [Oper.about, ho]
 ·rw [Oper.semAt_plain F _ _ (by rw [ho]; intro c hc'; cases hc')]
  simp [execOp, ho, hx, hy, hrun, Result.andThen]
  exact h
theorem only_setRow {w : World} {g : Nat} {old cs : Array Value} {t : TypeId} (hg : Blk w g old t) : Only (fun x => x = g) w (w.setRow g cs) ∧ Blk (w.setRow g cs) g cs t := by
 refine ⟨⟨⟨rfl, rfl, rfl, by simp, fun k hk => absurd hk (Nat.not_lt_zero k)⟩, fun k _ hk => setRow_other w g k cs hk⟩, setRow_heap w g old cs t (0, 0) hg⟩
theorem sliceB (g q : Nat) (hq : q ≤ 57) (W : World) : (Instr.sliceAt 78 (.pointer (some ⟨g, 0, none⟩)) (some (.int .i64 (q : Int))) none none).run Tryz.prog W = .ok (.slice (some ⟨g, q * 2, none⟩) (60 - q) (60 - q)) W := by
 have ht : Tryz.prog.underlying 78 = some (.array (Tryz.prog.arrayLen 78) (Tryz.prog.elem 78)) := by kernel_rfl
 have hl : Tryz.prog.arrayLen 78 = 60 := by kernel_rfl
 have he : ∀ W, (sizeOf (Tryz.prog.elem 78)).run Tryz.prog W = .ok 2 W := fun W => by kernel_rfl
 rw [run_sliceAt_array_l W 78 ⟨g, 0, none⟩ ht .i64 (q : Int) (by omega) (by rw [hl]; omega), he, hl]
 have hne : ¬ (60 = q) := by omega
 simp [Result.andThen, slicedAt, Addr.add, hne]
 exact fun q => q.symm
theorem sliceL (g : Nat) (W : World) : (Instr.sliceAt 89 (.pointer (some ⟨g, 0, none⟩)) none none none).run Tryz.prog W = .ok (.slice (some ⟨g, 0, none⟩) 3 3) W := by
 have ht : Tryz.prog.underlying 89 = some (.array (Tryz.prog.arrayLen 89) (Tryz.prog.elem 89)) := by kernel_rfl
 have hl : Tryz.prog.arrayLen 89 = 3 := by kernel_rfl
 have he : ∀ W, (sizeOf (Tryz.prog.elem 89)).run Tryz.prog W = .ok 2 W := fun W => by kernel_rfl
 rw [run_sliceAt_array_all W 89 ⟨g, 0, none⟩ ht, he, hl]
 simp [Result.andThen, slicedAt, Addr.add]
structure RA (w0 w : World) (b jb pb mb sb : Nat) (X : Nat → Prop) (n : Nat) (S : PS) (L : List ByteArray) (A : List (Nat × Nat)) (hn : Nat) (Mw Mn : List ByteArray) (T : Nat → Bool) (bw bv B g0 g1 g2 g3 g7 g9 gB : Nat) (xs : List Value) (e : Nat → Ent) (pre : List Nat) (W : World) : Prop where
 st : ∃ Y S', MGm bw bv w0 W b jb pb mb sb Y n S' L A hn Mw Mn T ∧ S'.op = S.op ∧ Tk S' S ∧ Fen B Y W ∧ (∀ x, X x ∨ x = g0 ∨ x = g1 ∨ x = g2 ∨ x = g3 ∨ x = g7 ∨ x = g9 ∨ x = gB → Y x)
 b0 : Blk W g0 #[.pointer (some ⟨sb, 0, none⟩)] 28
 b1 : Blk W g1 #[.int .i64 0, .int .i64 0, .int .i64 0, .int .i64 0, .int .i64 0, .int .i64 0, .int .i64 0, .int .i64 0, .int .i64 0, .int .i64 0, .int .i64 0, .int .i64 0, .int .i64 0, .int .i64 0, .int .i64 0, .int .i64 0, .int .i64 0, .int .i64 0, .int .i64 0, .int .i64 0, .int .i64 0, .int .i64 0] 69
 b2 : Blk W g2 z120 78
 b3 : Blk W g3 #[.int .i64 0] 35
 b7 : Blk W g7 xs.toArray 69
 b9 : Blk W g9 (bC (eP e pre)).toArray 78
 bB : Blk W gB xs.toArray 69
 on : Only (fun x => ¬ X x) w W
 sz : B ≤ W.heap.size
theorem RA.turn {w0 w : World} {b jb pb mb sb : Nat} {X : Nat → Prop} {n : Nat} {S : PS} {L : List ByteArray} {A : List (Nat × Nat)} {hn : Nat} {Mw Mn : List ByteArray} {T : Nat → Bool} {bw bv B g0 g1 g2 g3 g7 g9 gB : Nat} {xs : List Value} {e : Nat → Ent} (hX : ∀ x, X x → x < B) (hB : w0.heap.size ≤ B) {pre : List Nat} {W W' : World} {row : Option Nat} (h : RA w0 w b jb pb mb sb X n S L A hn Mw Mn T bw bv B g0 g1 g2 g3 g7 g9 gB xs e pre W) (hg : W.grownBy W' row) (hr : ∀ r, row = some r → B ≤ r ∧ ∃ o : Obj, W.heap[r]? = some o ∧ o.isCells = false) : RA w0 w b jb pb mb sb X n S L A hn Mw Mn T bw bv B g0 g1 g2 g3 g7 g9 gB xs e pre W' := by
 obtain ⟨⟨Y, S', h1, h2, h3, h4, h5⟩, b0, b1, b2, b3, b7, b9, bB, on, sz⟩ := h
 have hO : Only (fun q => row = some q) W W' := (Only.refl _ _).grown hg (fun q _ e => e)
 obtain ⟨t1, t2, t3⟩ := h1.1.turn h1.2 h4 hB hg hr
 have nb : ∀ {g : Nat} {cur : Array Value} {t : TypeId}, Blk W g cur t → Blk W' g cur t := fun hb => hb.only hO (fun q => hb.nc (hr _ q).2 rfl)
 exact ⟨⟨_, S', ⟨t1, t2⟩, h2, h3, t3, fun x q => .inl (h5 x q)⟩, nb b0, nb b1, nb b2, nb b3, nb b7, nb b9, nb bB, on.trans hO (fun x _ q r => by have := (hr x q).1; have := hX x r; omega), Nat.le_trans sz hO.size⟩
set_option maxRecDepth 100000 in
set_option maxHeartbeats 4000000 in
theorem readAll_in {w0 w : World} {b jb pb mb sb : Nat} {X : Nat → Prop} {n : Nat} {S : PS} {L : List ByteArray} {A : List (Nat × Nat)} {hn : Nat} {Mw Mn : List ByteArray} {T : Nat → Bool} (h : MG w0 w b jb pb mb sb X n S L A hn Mw Mn T) {m : Nat} {V : Nat → Vol} (hv : VS Mn n m T V) (k : Nat) (hk : k < m) : CallsIn Fence.wide 6 Tryz.prog 34 #[.pointer (some ⟨sb, 0, none⟩), .int .i64 ((V k).r : Int)] w fun e w' => e = .returned (.tuple #[.agg (trC ((V k).r : Int) ((V k).num : Int) (V k).lf).toArray, .agg (bC (V k).e).toArray, .int .i64 0]) ∧ MKept w0 w b jb pb mb sb X n S L A hn Mw Mn T w' := by
 have hzb := zeroB
 have HX := hide (show ∀ x, X x → x < w.heap.size from fun x q => h.bg.pk.lt x q)
 have HSZ := hide h.bel.size
 have HXM := hide (And.intro h.bg.xm h.xs)
 obtain ⟨g0, hg0⟩ : ∃ q, w.heap.size = q := ⟨_, rfl⟩
 obtain ⟨y0, hy0⟩ : ∃ q, w.alloc (.cells #[.pointer (some ⟨sb, 0, none⟩)] 28) = q := ⟨_, rfl⟩
 obtain ⟨g1, hg1⟩ : ∃ q, y0.heap.size = q := ⟨_, rfl⟩
 obtain ⟨y1, hy1⟩ : ∃ q, y0.alloc (.cells #[.int .i64 0, .int .i64 0, .int .i64 0, .int .i64 0, .int .i64 0, .int .i64 0, .int .i64 0, .int .i64 0, .int .i64 0, .int .i64 0, .int .i64 0, .int .i64 0, .int .i64 0, .int .i64 0, .int .i64 0, .int .i64 0, .int .i64 0, .int .i64 0, .int .i64 0, .int .i64 0, .int .i64 0, .int .i64 0] 69) = q := ⟨_, rfl⟩
 obtain ⟨g2, hg2⟩ : ∃ q, y1.heap.size = q := ⟨_, rfl⟩
 obtain ⟨y2, hy2⟩ : ∃ q, y1.alloc (.cells z120 78) = q := ⟨_, rfl⟩
 obtain ⟨g3, hg3⟩ : ∃ q, y2.heap.size = q := ⟨_, rfl⟩
 obtain ⟨y3, hy3⟩ : ∃ q, y2.alloc (.cells #[.int .i64 0] 35) = q := ⟨_, rfl⟩
 have G0 := h.add _ hy0 hg0
 have G1 := G0.add _ hy1 hg1
 have G2 := G1.add _ hy2 hg2
 have G3 := G2.add _ hy3 hg3
 have e1 : g1 = g0 + 1 := by rw [← hg1, ← hy0, ← hg0]; simp
 have e2 : g2 = g0 + 2 := by rw [← hg2, ← hy1, World.size_alloc, hg1, e1]
 have e3 : g3 = g0 + 3 := by rw [← hg3, ← hy2, World.size_alloc, hg2, e2]
 have O3 : Only (fun x => ¬ X x) w y3 := by rw [← hy3, ← hy2, ← hy1, ← hy0]; exact ((((Only.refl _ w).alloc _).alloc _).alloc _).alloc _
 have B0 : Blk y3 g0 #[.pointer (some ⟨sb, 0, none⟩)] 28 := by rw [← hy3, ← hy2, ← hy1, ← hy0, ← hg0]; exact (((Blk.new w _ _).alloc _).alloc _).alloc _
 have B1 : Blk y3 g1 #[.int .i64 0, .int .i64 0, .int .i64 0, .int .i64 0, .int .i64 0, .int .i64 0, .int .i64 0, .int .i64 0, .int .i64 0, .int .i64 0, .int .i64 0, .int .i64 0, .int .i64 0, .int .i64 0, .int .i64 0, .int .i64 0, .int .i64 0, .int .i64 0, .int .i64 0, .int .i64 0, .int .i64 0, .int .i64 0] 69 := by rw [← hy3, ← hy2, ← hy1, ← hg1]; exact ((Blk.new y0 _ _).alloc _).alloc _
 have B2 : Blk y3 g2 z120 78 := by rw [← hy3, ← hy2, ← hg2]; exact (Blk.new y1 _ _).alloc _
 have B3 : Blk y3 g3 #[.int .i64 0] 35 := by rw [← hy3, ← hg3]; exact Blk.new y2 _ _
 have c0 : y3.cell? ⟨g0, 0, none⟩ = some (.pointer (some ⟨sb, 0, none⟩)) := B0.cell 0
 have HFI := hide (sFind_ok G3 hv k hk)
 have HEM := hide (fun l hl => hv.em k hk l hl)
 have HRL := hide (fun (bw bv : Nat) (Y : Nat → Prop) W S' (G : MGm bw bv w0 W b jb pb mb sb Y n S' L A hn Mw Mn T) l (hl : l < 20) (h0 : (V k).lf l ≠ 0) => sReadLeafm G hv k hk l hl h0)
 have hxl := trC_len ((V k).r : Int) ((V k).num : Int) (V k).lf
 have hxo := trC_one ((V k).r : Int) ((V k).num : Int) (V k).lf
 have HTS := hide (fun Bt W hB => there_stops 5 Bt ((V k).r : Int) ((V k).num : Int) (V k).lf W hB)
 generalize trC ((V k).r : Int) ((V k).num : Int) (V k).lf = xs at *
 have HXL := hide hxl
 have HXO := hide hxo
 have X3 := hide (And.intro B0 (And.intro B1 (And.intro B2 (And.intro B3 O3))))
 have HE := hide (And.intro e1 (And.intro e2 e3))
 clear h G0 G1 G2 G3 e1 e2 e3 O3 B0 B1 B2 B3 hxl hxo hv
 refine callsIn_of_wp_marks Tryz.func34 rfl trivial ?_ rfl
 simp only [Tryz.ntmps34, List.size_toArray, List.length_cons, List.length_nil, Nat.reduceAdd, Nat.reduceSub, Array.replicate_succ, Array.replicate_zero, List.push_toArray, List.append_toArray, List.nil_append, List.cons_append]
 gi_wp2_with fail
 refine ⟨trivial, (callsIn_wide.2 (unhide HFI)).mono ?_⟩
 rintro e x2 ⟨rfl, S2, k1, k2, k3, k4⟩
 obtain ⟨B0, B1, B2, B3, O3⟩ := unhide X3
 obtain ⟨e1, e2, e3⟩ := unhide HE
 have n0 := B0.only k4 (fun q => q (.inl (.inl (.inl (.inr rfl)))))
 have n1 := B1.only k4 (fun q => q (.inl (.inl (.inr rfl))))
 have n2 := B2.only k4 (fun q => q (.inl (.inr rfl)))
 have n3 := B3.only k4 (fun q => q (.inr rfl))
 have O2 : Only (fun x => ¬ X x) w x2 := O3.trans k4 (fun _ _ q r => q (.inl (.inl (.inl (.inl r)))))
 obtain ⟨g7, hg7⟩ : ∃ q, x2.heap.size = q := ⟨_, rfl⟩
 obtain ⟨x3, hx3⟩ : ∃ q, x2.alloc (.cells #[.int .i64 0, .int .i64 0, .int .i64 0, .int .i64 0, .int .i64 0, .int .i64 0, .int .i64 0, .int .i64 0, .int .i64 0, .int .i64 0, .int .i64 0, .int .i64 0, .int .i64 0, .int .i64 0, .int .i64 0, .int .i64 0, .int .i64 0, .int .i64 0, .int .i64 0, .int .i64 0, .int .i64 0, .int .i64 0] 69) = q := ⟨_, rfl⟩
 have hb3 : Below x2.heap.size x2 x3 := by rw [← hx3]; exact (Below.refl _ x2).alloc (Nat.le_refl _) _
 have G3 := k1.add _ hx3 hg7
 have N7 := k1.new hg7
 have B7 : Blk x3 g7 #[.int .i64 0, .int .i64 0, .int .i64 0, .int .i64 0, .int .i64 0, .int .i64 0, .int .i64 0, .int .i64 0, .int .i64 0, .int .i64 0, .int .i64 0, .int .i64 0, .int .i64 0, .int .i64 0, .int .i64 0, .int .i64 0, .int .i64 0, .int .i64 0, .int .i64 0, .int .i64 0, .int .i64 0, .int .i64 0] 69 := by rw [← hx3, ← hg7]; exact Blk.new x2 _ _
 have TH := hide (blk_there B7 xs.toArray.size (by simp [unhide HXL]))
 obtain ⟨x4, hx4⟩ : ∃ q, x3.setCells g7 0 xs = q := ⟨_, rfl⟩
 have O4 : Only (fun x => x = g7) x3 x4 := by rw [← hx4]; exact only_cells g7 0 xs rfl
 have m7 : Blk x4 g7 xs.toArray 69 := by rw [← hx4]; exact setCells_all B7 xs (by simp [unhide HXL])
 have G4 := G3.poke (.inr rfl) N7.2.1 N7.2.2.1 N7.2.2.2 O4
 have hs7 : g3 < g7 := by rw [← hg7]; exact n3.lt
 have m0 := (n0.below hb3 n0.lt).only O4 (fun q => by omega)
 have m1 := (n1.below hb3 n1.lt).only O4 (fun q => by omega)
 have m2 := (n2.below hb3 n2.lt).only O4 (fun q => by omega)
 have m3 := (n3.below hb3 n3.lt).only O4 (fun q => by omega)
 obtain ⟨g9, hg9⟩ : ∃ q, x4.heap.size = q := ⟨_, rfl⟩
 obtain ⟨x5, hx5⟩ : ∃ q, x4.alloc (.cells z120 78) = q := ⟨_, rfl⟩
 have hb5 : Below x4.heap.size x4 x5 := by rw [← hx5]; exact (Below.refl _ x4).alloc (Nat.le_refl _) _
 have G5 := G4.add _ hx5 hg9
 have B9 : Blk x5 g9 z120 78 := by rw [← hx5, ← hg9]; exact Blk.new x4 _ _
 have m5 := m7.below hb5 m7.lt
 obtain ⟨gB, hgB⟩ : ∃ q, x5.heap.size = q := ⟨_, rfl⟩
 obtain ⟨x6, hx6⟩ : ∃ q, x5.alloc (.cells xs.toArray 69) = q := ⟨_, rfl⟩
 have hb6 : Below x5.heap.size x5 x6 := by rw [← hx6]; exact (Below.refl _ x5).alloc (Nat.le_refl _) _
 have G6 := G5.add _ hx6 hgB
 have R5 := hide (blk_range m5)
 have HTH := hide (there_any xs x5)
 rw [hgB, hx6] at HTH
 have hs9 : g7 < g9 := by rw [← hg9]; exact m7.lt
 have hsB : g9 < gB := by rw [← hgB]; exact B9.lt
 have hB6 : x6.heap.size = gB + 1 := by rw [← hx6, ← hgB]; simp
 have B6 : Blk x6 gB xs.toArray 69 := by rw [← hx6, ← hgB]; exact Blk.new x5 _ _
 obtain ⟨bw, bv, hmp, hbw, hbv⟩ := G6.bg.pk.maps
 obtain ⟨B, hB⟩ : ∃ q, x6.heap.size = q := ⟨_, rfl⟩
 have b06 := (m0.below hb5 m0.lt)
 have b16 := (m1.below hb5 m1.lt)
 have b26 := (m2.below hb5 m2.lt)
 have b36 := (m3.below hb5 m3.lt)
 have O5 : Only (fun x => ¬ X x) w x6 := (((O2.trans (Only.of_below (P := fun x => ¬ X x) hb3) (fun _ _ q => q)).trans O4 (fun x _ q r => by have := unhide HX x r; omega)).trans (Only.of_below (P := fun x => ¬ X x) hb5) (fun _ _ q => q)).trans (Only.of_below (P := fun x => ¬ X x) hb6) (fun _ _ q => q)
 have I0 := hide (show RA w0 w b jb pb mb sb X n S L A hn Mw Mn T bw bv B g0 g1 g2 g3 g7 g9 gB xs (V k).e [] x6 from ⟨⟨_, S2, ⟨G6, hmp⟩, k2, k3, fun x h1 h2 => by have := h2.lt; omega, fun x q => by
  rcases q with q | q | q | q | q | q | q | q
  ·exact .inl (.inl (.inl (.inl (.inl (.inl (.inl q))))))
  ·exact .inl (.inl (.inl (.inl (.inl (.inl (.inr q))))))
  ·exact .inl (.inl (.inl (.inl (.inl (.inr q)))))
  ·exact .inl (.inl (.inl (.inl (.inr q))))
  ·exact .inl (.inl (.inl (.inr q)))
  ·exact .inl (.inl (.inr q))
  ·exact .inl (.inr q)
  ·exact .inr q⟩, b06.below hb6 b06.lt, b16.below hb6 b16.lt, b26.below hb6 b26.lt, b36.below hb6 b36.lt, m5.below hb6 m5.lt, by rw [eP_nil, bC_zero]; exact B9.below hb6 B9.lt, B6, O5, by omega⟩)
 have HN := hide (show g0 < B ∧ g1 < B ∧ g2 < B ∧ g3 < B ∧ g7 < B ∧ g9 < B ∧ gB < B ∧ w0.heap.size ≤ g0 ∧ bw < B ∧ bv < B ∧ g0 < g1 ∧ g1 < g2 ∧ g2 < g3 ∧ g3 < g7 ∧ g7 < g9 ∧ g9 < gB from ⟨by omega, by omega, by omega, by omega, by omega, by omega, by omega, by have := unhide HSZ; omega, by omega, by omega, by omega, by omega, by omega, by omega, by omega, by omega⟩)
 have HB6 := hide B6
 clear B0 B1 B2 B3 O3 e1 e2 e3 n0 n1 n2 n3 O2 k1 k2 k3 k4 hb3 G3 N7 B7 O4 m7 G4 m0 m1 m2 m3 hb5 G5 B9 m5 hb6 G6 b06 b16 b26 b36 O5 B6 hmp hbw hbv X3 HE HFI hy0 hy1 hy2 hy3
 gi_wp2_with (first | refine wpListIn_store_mid' rfl 69 (.tmp 7) (.tmp 17) rfl g7 0 xs.toArray rfl rfl (unhide TH) (by rw [sizeTree]; simp [unhide HXL]) (unhide HXO) ?_ | refine wpListIn_load_mid' rfl 69 (.tmp 7) rfl g7 0 rfl _ _ (unhide R5) Tryz.underlying69 rfl (by rw [sizeTree, unhide HXL]) ?_)
 refine ⟨trivial, (callsIn_wide.2 (unhide HTH)).mono ?_⟩
 rintro e w' ⟨rfl, hw'⟩
 subst w'
 gi_wp2_with fail
 obtain ⟨nA, nB, nC, nD, nE, nF, nG, nH, nI, nJ, nK, nL, nM, nN, nO, nP⟩ := unhide HN
 have hX6 : ∀ x, X x → x < x6.heap.size := fun x q => by have := unhide HX x q; omega
 refine wpIn_rangeFunc_ownG rfl (by omega) (gf := 91) (lb := #[.pointer (some ⟨gB, 0, none⟩)]) rfl trivial (enters_of Tryz.func91 (by kernel_rfl) rfl)
  (unhide HTS gB x6 (unhide HB6)) kb_t (kb_b (by omega)) (Below.refl _ _) (fun _ => rfl)
  (fun pre W => RA w0 w b jb pb mb sb X n S L A hn Mw Mn T bw bv B g0 g1 g2 g3 g7 g9 gB xs (V k).e (pre.map (·.1)) W)
  (fun _ _ _ => False)
  (fun pre W W' row hs hg hr => by rw [hB] at hr; exact RA.turn (fun x q => by have := hX6 x q; omega) (by omega) hs hg hr)
  (fun _ _ _ _ _ hs _ _ => hs)
  (unhide I0)
  (fun x => { tmps := #[.pointer (some ⟨sb, 0, none⟩), .int .i64 ((V k).r : Int), .pointer (some ⟨g0, 0, none⟩), undef, .pointer (some ⟨g1, 0, none⟩), .pointer (some ⟨g2, 0, none⟩), .pointer (some ⟨g3, 0, none⟩), .pointer (some ⟨g7, 0, none⟩), .int .i64 0, .pointer (some ⟨g9, 0, none⟩), .int .i64 (x.1 : Int), undef, undef, .tuple #[.agg xs.toArray, .int .i64 0], .pointer (some ⟨sb, 0, none⟩), .int .i64 ((V k).r : Int), .tuple #[.agg xs.toArray, .int .i64 0], .agg xs.toArray, .int .i64 0, .int .i64 0, .bool false, undef, undef, undef, .agg xs.toArray, .func (.func 91) #[] #[.pointer (some ⟨gB, 0, none⟩)], .int .i64 (x.1 : Int), undef, undef, undef, undef, undef, undef, undef, undef, undef, undef, undef, undef, undef, undef, undef, undef, undef, undef, undef], defers := [] }) ?assign ?body ?done ?stop
 case assign =>
  intro l x W K hK
  gi_wp2
  exact hK
 case body =>
  rintro l pre x W hI hlt
  obtain ⟨pn, hpn⟩ : ∃ q, List.map (fun (x : Lv (V k).lf) => x.1) pre = q := ⟨_, rfl⟩
  rw [hpn] at hI
  have HPN := hide hpn
  clear hpn
  obtain ⟨⟨Y, S', M1, s1, s2, s3, s4⟩, b0, b1, b2, b3, b7, b9, bB, on, sz⟩ := hI
  have cs0 : W.cell? ⟨g0, 0, none⟩ = some (.pointer (some ⟨sb, 0, none⟩)) := b0.cell 0
  have R7 := hide (blk_range b7)
  have HR1 := hide (unhide HRL bw bv Y W S' M1 x.1 x.2.1 x.2.2)
  have X1 := hide (And.intro b0 (And.intro b1 (And.intro b2 (And.intro b3 (And.intro b7 (And.intro b9 (And.intro bB (And.intro on (And.intro sz (And.intro s1 (And.intro s2 (And.intro s3 s4))))))))))))
  have HFL := hide (show ∀ j, j < 3 → (V k).f x.1 j = (V k).e (3 * x.1 + j) from fun j _ => rfl)
  obtain ⟨lv, hlv⟩ := x
  simp only at HR1 HFL
  generalize (V k).f lv = ff at *
  have hyl := lfC_len ff
  have hyo := lfC_one ff
  generalize hys : lfC ff = ys at *
  have HYS := hide hys
  have HYL := hide hyl
  have HYO := hide hyo
  clear b0 b1 b2 b3 b7 b9 bB on sz s1 s2 s3 s4 M1 hys hyl hyo
  gi_wp2_with (refine wpListIn_load_mid' rfl 69 (.tmp 7) rfl g7 0 rfl _ _ (unhide R7) Tryz.underlying69 rfl (by rw [sizeTree, unhide HXL]) ?_)
  refine ⟨trivial, (CallsIn.inRound l (callsIn_wide.2 (unhide HR1))).mono ?_⟩
  rintro e z1 ⟨rfl, S3, k1, k2, k3, k4⟩
  obtain ⟨g11, hg11⟩ : ∃ q, z1.heap.size = q := ⟨_, rfl⟩
  obtain ⟨z2, hz2⟩ : ∃ q, z1.alloc (.cells #[.string ⟨#[]⟩, .string ⟨#[]⟩, .string ⟨#[]⟩, .string ⟨#[]⟩, .string ⟨#[]⟩, .string ⟨#[]⟩] 89) = q := ⟨_, rfl⟩
  have BL : Blk z2 g11 #[.string ⟨#[]⟩, .string ⟨#[]⟩, .string ⟨#[]⟩, .string ⟨#[]⟩, .string ⟨#[]⟩, .string ⟨#[]⟩] 89 := by rw [← hz2, ← hg11]; exact Blk.new z1 _ _
  have TH2 := hide (blk_there BL ys.toArray.size (by simp [unhide HYL]))
  obtain ⟨z3, hz3⟩ : ∃ q, z2.setCells g11 0 ys = q := ⟨_, rfl⟩
  have hl20 : (lv : Int) < 20 := by have := hlv.1; omega
  have hl0 : (0 : Int) ≤ (lv : Int) := by omega
  have X2 := hide (And.intro k1 (And.intro k2 (And.intro k3 (And.intro k4 BL))))
  clear k1 k2 k3 k4 BL R7 HR1
  gi_wp2_with (refine wpListIn_store_mid' rfl 89 (.tmp 11) (.tmp 32) rfl g11 0 ys.toArray rfl rfl (unhide TH2) (by rw [sizeLeaf]; simp [unhide HYL]) (unhide HYO) ?_)
  obtain ⟨q3, hq3⟩ : ∃ q, 3 * lv = q := ⟨_, rfl⟩
  have hw3 : IntKind.i64.wrap ((lv : Int) * 3) = (q3 : Int) := by rw [show (lv : Int) * 3 = (q3 : Int) by omega]; exact wrapI_eq _ (by omega) (by have := hlv.1; omega)
  have hq57 : q3 ≤ 57 := by have := hlv.1; omega
  have HQ3 := hide hq3
  clear hq3
  have hsB := sliceB g9 q3 hq57
  have hsL := sliceL g11
  obtain ⟨k1, k2, k3, k4, BL⟩ := unhide X2
  obtain ⟨b0, b1, b2, b3, b7, b9, bB, on, sz, s1, s2, s3, s4⟩ := unhide X1
  have hsz1 : W.heap.size ≤ g11 := by rw [← hg11]; exact k4.size
  have hb2 : Below z1.heap.size z1 z2 := by rw [← hz2]; exact (Below.refl _ z1).alloc (Nat.le_refl _) _
  have O3 : Only (fun x => x = g11) z2 z3 := by rw [← hz3]; exact only_cells g11 0 ys rfl
  have O23 : Only (fun x => x = g11) z1 z3 := (Only.of_below (P := fun x => x = g11) hb2).trans O3 (fun _ _ q => q)
  have O3d : Only (fun x => x = g11) z1 z3.drew := O23.drew
  have BL3 : Blk z3.drew g11 ys.toArray 89 := by
   have : Blk z3 g11 ys.toArray 89 := by rw [← hz3]; exact setCells_all BL ys (by simp [unhide HYL])
   exact this
  have up : ∀ {g : Nat} {cur : Array Value} {t : TypeId}, Blk W g cur t → Y g → Blk z3.drew g cur t := fun hb hy => (hb.only k4 (fun q => q hy)).only O3d (fun q => by have := hb.lt; omega)
  have y9 := s4 g9 (.inr (.inr (.inr (.inr (.inr (.inr (.inl rfl)))))))
  have B9 := up b9 y9
  obtain ⟨q1, q2⟩ := only_setRow (cs := ((bC (eP (V k).e (pn))).toArray.toList.take (q3 * 2) ++ ys ++ (bC (eP (V k).e (pn))).toArray.toList.drop (q3 * 2 + ys.length)).toArray) B9
  have hcp := run_copy_rowK z3.drew 142 142 3 47 2 g9 (q3 * 2) (60 - q3) (60 - q3) ⟨g11, 0, none⟩ 3 3 (bC (eP (V k).e (pn))).toArray 78 ys 3 Tryz.underlying142 sizeEntr B9 (by show 3 = min 3 (60 - q3); omega) (by rw [unhide HYL]) (fun j v hv => by rw [Addr.add_mid, Nat.zero_add, BL3.cell]; simpa using hv) (by rw [unhide HYL]; simp [bC_len]; omega) (fun v hv => (Array.all_eq_true_iff_forall_mem.1 (unhide HYO)) v (by simpa using hv))
  have hcc := bC_copy (V k).e pn lv hlv.1 ff (unhide HFL)
  rw [unhide HYS, show 6 * lv = q3 * 2 by have := unhide HQ3; omega] at hcc
  rw [hcc] at hcp q1 q2
  obtain ⟨z4, hz4⟩ : ∃ q, z3.drew.setRow g9 (bC (eP (V k).e (pn ++ [lv]))).toArray = q := ⟨_, rfl⟩
  rw [hz4] at hcp q1 q2
  have up4 : ∀ {g : Nat} {cur : Array Value} {t : TypeId}, Blk W g cur t → Y g → g ≠ g9 → Blk z4 g cur t := fun hb hy hn => (up hb hy).only q1 hn
  have M2 := k1.add _ hz2 hg11
  have N2 := k1.new hg11
  have M3 := M2.poke (.inr rfl) N2.2.1 N2.2.2.1 N2.2.2.2 O3
  have M3d := M3.below ((Below.refl _ z3).drew)
  have n9m : g9 ≠ mb := fun q => by
   have h1 := k1.1.bg.mp
   unfold MB at h1
   have h2 := b9.only k4 (fun q => q y9)
   rw [q] at h2
   have := (show z1.heap[mb]? = _ from h1).symm.trans h2
   simp at this
  have n9s : g9 ≠ sb := fun q => by
   have h1 := k1.1.st
   have h2 := b9.only k4 (fun q => q y9)
   rw [q] at h2
   have := (show z1.heap[sb]? = _ from h1).symm.trans h2
   simp at this
  have M4 := M3d.poke (.inl y9) (by omega) n9m n9s q1
  have hcell := bB.only k4 (fun q => q (s4 gB (.inr (.inr (.inr (.inr (.inr (.inr (.inr rfl)))))))))
  have b4B := up4 bB (s4 gB (.inr (.inr (.inr (.inr (.inr (.inr (.inr rfl))))))))  (by omega)
  have FIN := hide (show KeepsFrom x6.heap.size W z4 ∧ Kb gB W z4 ∧ RA w0 w b jb pb mb sb X n S L A hn Mw Mn T bw bv B g0 g1 g2 g3 g7 g9 gB xs (V k).e (pn ++ [lv]) z4 from by
   refine ⟨⟨Nat.le_trans (Nat.le_trans k4.size O3d.size) q1.size, fun kk o hkB hko hoc => ?_⟩, ⟨(show z4.heap[gB]? = _ from b4B).trans (show W.heap[gB]? = _ from bB).symm, Nat.le_trans (Nat.le_trans k4.size O3d.size) q1.size⟩, ⟨fun x => (Y x ∨ x = g11) ∨ (Nc z4 x ∧ B ≤ x), S3, ⟨M4.1.nc M4.2 (fun x q => ?_) (.inl M4.1.bg.xm) (.inl M4.1.xs), M4.2⟩, k2.trans s1, k3.trans s2, fun x hx hn => .inr ⟨hn, hx⟩, fun x q => .inl (.inl (s4 x q))⟩, ?_, ?_, ?_, ?_, ?_, q2, b4B, ?_, ?_⟩
   ·have hlt : kk < W.heap.size := (Array.getElem?_eq_some_iff.1 hko).1
    have hyk : Y kk := s3 kk (by omega) ⟨o, hko, hoc⟩
    have h1 : z1.heap[kk]? = some o := (k4.2 kk hlt (fun q => q hyk)).trans hko
    have hl1 : kk < z1.heap.size := (Array.getElem?_eq_some_iff.1 h1).1
    have h2 : z3.drew.heap[kk]? = some o := (O3d.2 kk hl1 (fun q => by omega)).trans h1
    have hl2 : kk < z3.drew.heap.size := (Array.getElem?_eq_some_iff.1 h2).1
    exact (q1.2 kk hl2 (fun q => by omega)).trans h2
   ·rcases q with q | ⟨q, r⟩
    ·exact .inl q
    ·exact .inr ⟨q, by omega, by omega⟩
   ·exact up4 b0 (s4 g0 (.inr (.inl rfl))) (by omega)
   ·exact up4 b1 (s4 g1 (.inr (.inr (.inl rfl)))) (by omega)
   ·exact up4 b2 (s4 g2 (.inr (.inr (.inr (.inl rfl))))) (by omega)
   ·exact up4 b3 (s4 g3 (.inr (.inr (.inr (.inr (.inl rfl)))))) (by omega)
   ·exact up4 b7 (s4 g7 (.inr (.inr (.inr (.inr (.inr (.inl rfl))))))) (by omega)
   ·exact ((on.trans k4 (fun x _ q r => q (s4 x (.inl r)))).trans O3d (fun x _ q r => by have := unhide HX x r; omega)).trans q1 (fun x _ q r => by have := unhide HX x r; omega)
   ·exact Nat.le_trans sz (Nat.le_trans (Nat.le_trans k4.size O3d.size) q1.size))
  clear k1 k2 k3 k4 BL b0 b1 b2 b3 b7 b9 bB on sz s1 s2 s3 s4 hb2 O3 O23 O3d BL3 up y9 B9 q1 q2 hcc up4 M2 N2 M3 M3d n9m n9s M4 hcell b4B X1 X2 hz4 hz2 hz3
  refine wpIn_region_any (by kernel_rfl) ?_
  change wpAnyIn _ _ _ _ _ _ _ _ _ z3.drew
  refine wpAnyIn_ready (rs := [0, 3]) (by kernel_rfl) (by simp) ?_
  refine AllReadyIn.cons rfl (fun K hK => ?o1) (AllReadyIn.cons rfl (fun K hK => ?o2) AllReadyIn.nil)
  case o1 =>
   simp only [List.getElem_toArray, List.getElem_cons_zero]
   go_simp
   refine hK _ _ ?_
   clear hK K
   refine wpAnyIn_ready (rs := [1, 3]) (by kernel_rfl) (by simp) ?_
   refine AllReadyIn.cons rfl (fun K hK => ?o3) (AllReadyIn.cons rfl (fun K hK => ?o4) AllReadyIn.nil)
   case o3 =>
    simp only [List.getElem_toArray, List.getElem_cons_succ, List.getElem_cons_zero]
    go_simp
    refine hK _ _ ?_
    clear hK K
    refine wpAnyIn_ready (rs := [2, 3]) (by kernel_rfl) (by simp) ?_
    refine AllReadyIn.cons rfl (fun K hK => ?o5) (AllReadyIn.cons rfl (fun K hK => ?o6) AllReadyIn.nil)
    case o5 =>
     simp only [List.getElem_toArray, List.getElem_cons_succ, List.getElem_cons_zero]
     go_simp
     refine hK _ _ ?_
     clear hK K
     refine wpAnyIn_ready (rs := [3]) (by kernel_rfl) (by simp) ?_
     refine AllReadyIn.cons rfl (fun K hK => ?o7) AllReadyIn.nil
     case o7 =>
      simp only [List.getElem_toArray, List.getElem_cons_succ, List.getElem_cons_zero]
      go_simp
      refine hK _ _ ?_
      clear hK K
      refine wpAnyIn_ready (rs := [4]) (by kernel_rfl) (by simp) ?_
      refine AllReadyIn.cons rfl (fun K hK => ?o8) AllReadyIn.nil
      case o8 =>
       simp only [List.getElem_toArray, List.getElem_cons_succ, List.getElem_cons_zero]
       go_simp
       refine hK _ _ ?_
       clear hK K
       refine wpAnyIn_done (by kernel_rfl) ?_ _
       gi_wp2
       have hfin := unhide FIN
       rw [← unhide HPN] at hfin
       have h3 := hfin.2.2
       rw [show List.map (fun (x : Lv (V k).lf) => x.1) pre ++ [lv] = List.map (fun (x : Lv (V k).lf) => x.1) (pre ++ [⟨lv, hlv⟩]) from by rw [List.map_append]; rfl] at h3
       exact ⟨hfin.1, hfin.2.1, h3⟩
    case o6 =>
     simp only [List.getElem_toArray, List.getElem_cons_succ, List.getElem_cons_zero]
     go_simp
     refine hK _ _ ?_
     clear hK K
     refine wpAnyIn_ready (rs := [2]) (by kernel_rfl) (by simp) ?_
     refine AllReadyIn.cons rfl (fun K hK => ?o9) AllReadyIn.nil
     case o9 =>
      simp only [List.getElem_toArray, List.getElem_cons_succ, List.getElem_cons_zero]
      go_simp
      refine hK _ _ ?_
      clear hK K
      refine wpAnyIn_ready (rs := [4]) (by kernel_rfl) (by simp) ?_
      refine AllReadyIn.cons rfl (fun K hK => ?o10) AllReadyIn.nil
      case o10 =>
       simp only [List.getElem_toArray, List.getElem_cons_succ, List.getElem_cons_zero]
       go_simp
       refine hK _ _ ?_
       clear hK K
       refine wpAnyIn_done (by kernel_rfl) ?_ _
       gi_wp2
       have hfin := unhide FIN
       rw [← unhide HPN] at hfin
       have h3 := hfin.2.2
       rw [show List.map (fun (x : Lv (V k).lf) => x.1) pre ++ [lv] = List.map (fun (x : Lv (V k).lf) => x.1) (pre ++ [⟨lv, hlv⟩]) from by rw [List.map_append]; rfl] at h3
       exact ⟨hfin.1, hfin.2.1, h3⟩
   case o4 =>
    simp only [List.getElem_toArray, List.getElem_cons_succ, List.getElem_cons_zero]
    go_simp
    refine hK _ _ ?_
    clear hK K
    refine wpAnyIn_ready (rs := [1]) (by kernel_rfl) (by simp) ?_
    refine AllReadyIn.cons rfl (fun K hK => ?o11) AllReadyIn.nil
    case o11 =>
     simp only [List.getElem_toArray, List.getElem_cons_succ, List.getElem_cons_zero]
     go_simp
     refine hK _ _ ?_
     clear hK K
     refine wpAnyIn_ready (rs := [2]) (by kernel_rfl) (by simp) ?_
     refine AllReadyIn.cons rfl (fun K hK => ?o12) AllReadyIn.nil
     case o12 =>
      simp only [List.getElem_toArray, List.getElem_cons_succ, List.getElem_cons_zero]
      go_simp
      refine hK _ _ ?_
      clear hK K
      refine wpAnyIn_ready (rs := [4]) (by kernel_rfl) (by simp) ?_
      refine AllReadyIn.cons rfl (fun K hK => ?o13) AllReadyIn.nil
      case o13 =>
       simp only [List.getElem_toArray, List.getElem_cons_succ, List.getElem_cons_zero]
       go_simp
       refine hK _ _ ?_
       clear hK K
       refine wpAnyIn_done (by kernel_rfl) ?_ _
       gi_wp2
       have hfin := unhide FIN
       rw [← unhide HPN] at hfin
       have h3 := hfin.2.2
       rw [show List.map (fun (x : Lv (V k).lf) => x.1) pre ++ [lv] = List.map (fun (x : Lv (V k).lf) => x.1) (pre ++ [⟨lv, hlv⟩]) from by rw [List.map_append]; rfl] at h3
       exact ⟨hfin.1, hfin.2.1, h3⟩
  case o2 =>
   simp only [List.getElem_toArray, List.getElem_cons_succ, List.getElem_cons_zero]
   go_simp
   refine hK _ _ ?_
   clear hK K
   refine wpAnyIn_ready (rs := [0]) (by kernel_rfl) (by simp) ?_
   refine AllReadyIn.cons rfl (fun K hK => ?o14) AllReadyIn.nil
   case o14 =>
    simp only [List.getElem_toArray, List.getElem_cons_zero]
    go_simp
    refine hK _ _ ?_
    clear hK K
    refine wpAnyIn_ready (rs := [1]) (by kernel_rfl) (by simp) ?_
    refine AllReadyIn.cons rfl (fun K hK => ?o15) AllReadyIn.nil
    case o15 =>
     simp only [List.getElem_toArray, List.getElem_cons_succ, List.getElem_cons_zero]
     go_simp
     refine hK _ _ ?_
     clear hK K
     refine wpAnyIn_ready (rs := [2]) (by kernel_rfl) (by simp) ?_
     refine AllReadyIn.cons rfl (fun K hK => ?o16) AllReadyIn.nil
     case o16 =>
      simp only [List.getElem_toArray, List.getElem_cons_succ, List.getElem_cons_zero]
      go_simp
      refine hK _ _ ?_
      clear hK K
      refine wpAnyIn_ready (rs := [4]) (by kernel_rfl) (by simp) ?_
      refine AllReadyIn.cons rfl (fun K hK => ?o17) AllReadyIn.nil
      case o17 =>
       simp only [List.getElem_toArray, List.getElem_cons_succ, List.getElem_cons_zero]
       go_simp
       refine hK _ _ ?_
       clear hK K
       refine wpAnyIn_done (by kernel_rfl) ?_ _
       gi_wp2
       have hfin := unhide FIN
       rw [← unhide HPN] at hfin
       have h3 := hfin.2.2
       rw [show List.map (fun (x : Lv (V k).lf) => x.1) pre ++ [lv] = List.map (fun (x : Lv (V k).lf) => x.1) (pre ++ [⟨lv, hlv⟩]) from by rw [List.map_append]; rfl] at h3
       exact ⟨hfin.1, hfin.2.1, h3⟩
 case done =>
  rintro D ys W hD hys hI hK
  subst hys
  have HAL := hide (bC_all (v := V k) (unhide HEM))
  obtain ⟨⟨Y, S', M1, s1, s2, s3, s4⟩, b0, b1, b2, b3, b7, b9, bB, on, sz⟩ := hI
  rw [unhide HAL] at b9
  obtain ⟨bs, hbs⟩ : ∃ q, bC (V k).e = q := ⟨_, rfl⟩
  have hbl := bC_len (V k).e
  have hbo := all_oneCell_toArray (bC_one (V k).e)
  rw [hbs] at b9 hbl hbo
  have HBS := hide hbs
  clear hbs
  have b1d : Blk W.drew g1 #[.int .i64 0, .int .i64 0, .int .i64 0, .int .i64 0, .int .i64 0, .int .i64 0, .int .i64 0, .int .i64 0, .int .i64 0, .int .i64 0, .int .i64 0, .int .i64 0, .int .i64 0, .int .i64 0, .int .i64 0, .int .i64 0, .int .i64 0, .int .i64 0, .int .i64 0, .int .i64 0, .int .i64 0, .int .i64 0] 69 := b1
  have b2d : Blk W.drew g2 z120 78 := b2
  have b3d : Blk W.drew g3 #[.int .i64 0] 35 := b3
  have b9d : Blk W.drew g9 bs.toArray 78 := b9
  have b7d : Blk W.drew g7 xs.toArray 69 := b7
  obtain ⟨wA, hwA⟩ : ∃ q, W.drew.setCells g1 0 xs = q := ⟨_, rfl⟩
  have OA : Only (fun x => x = g1) W.drew wA := by rw [← hwA]; exact only_cells g1 0 xs rfl
  have B1A : Blk wA g1 xs.toArray 69 := by rw [← hwA]; exact setCells_all b1d xs (by simp [unhide HXL])
  have b2A := b2d.only OA (by omega)
  have b9A := b9d.only OA (by omega)
  obtain ⟨wB, hwB⟩ : ∃ q, wA.setCells g2 0 bs = q := ⟨_, rfl⟩
  have OB : Only (fun x => x = g2) wA wB := by rw [← hwB]; exact only_cells g2 0 bs rfl
  have B2B : Blk wB g2 bs.toArray 78 := by rw [← hwB]; exact setCells_all b2A bs (by rw [hbl]; rfl)
  have b3B := (b3d.only OA (by omega)).only OB (by omega)
  have B1B := B1A.only OB (by omega)
  obtain ⟨wC, hwC⟩ : ∃ q, wB.setCell ⟨g3, 0, none⟩ (.int .i64 0) = q := ⟨_, rfl⟩
  have OC : Only (fun x => x = g3) wB wC := by rw [← hwC]; exact (Only.refl (fun x => x = g3) wB).setCell ⟨g3, 0, none⟩ (.int .i64 0) (fun _ => rfl)
  have B3C : Blk wC g3 #[.int .i64 0] 35 := by rw [← hwC]; exact b3B.set 0 (.int .i64 0)
  have B1C := B1B.only OC (by omega)
  have B2C := B2B.only OC (by omega)
  have OAC : Only (fun x => x = g1 ∨ x = g2 ∨ x = g3) W wC := (((Only.refl _ W).drew.trans OA (fun _ _ q => .inl q)).trans OB (fun _ _ q => .inr (.inl q))).trans OC (fun _ _ q => .inr (.inr q))
  have hDW : D < W.heap.size := (Array.getElem?_eq_some_iff.1 hK).1
  have hKC : wC.heap[D]? = some (.deferred (some [])) := (OAC.2 D hDW (fun q => by omega)).trans hK
  obtain ⟨wE, hwE⟩ : ∃ q, wC.putObj D (.deferred none) = q := ⟨_, rfl⟩
  have OE : Only (fun x => x = D) wC wE := by
   rw [← hwE]
   exact (Only.refl _ _).grown (grownBy_putObj' wC D (.deferred none)) (fun q _ e => (Option.some.inj e).symm)
  have ncD : Nc wC D := ⟨_, hKC, rfl⟩
  have yD : Y D := s3 D (by omega) ⟨_, hK, rfl⟩
  have yd : ∀ x, (x = g1 ∨ x = g2 ∨ x = g3) → Y x := fun x q => s4 x (by rcases q with q | q | q <;> simp [q])
  have pk : ∀ {w1 w2 : World} {g : Nat} {cur : Array Value} {t : TypeId}, MG w0 w1 b jb pb mb sb Y n S' L A hn Mw Mn T → Blk w1 g cur t → Y g → w0.heap.size ≤ g → (t ≠ 177 ∧ t ≠ 129) → Only (fun x => x = g) w1 w2 → MG w0 w2 b jb pb mb sb Y n S' L A hn Mw Mn T := fun G hb hy hlo hty O => G.poke hy hlo (fun q => by
    have h1 := G.bg.mp
    unfold MB at h1
    rw [q] at hb
    have := (show _ = _ from h1).symm.trans hb
    simp only [Option.some.injEq, Obj.cells.injEq] at this
    exact hty.1 this.2.1.symm) (fun q => by
    have h1 := G.st
    rw [q] at hb
    have := (show _ = _ from h1).symm.trans hb
    simp only [Option.some.injEq, Obj.cells.injEq] at this
    exact hty.2 this.2.1.symm) O
  have qA := pk (M1.1.below ((Below.refl _ W).drew)) b1d (yd g1 (.inl rfl)) (by omega) ⟨by decide, by decide⟩ OA
  have qB := pk qA b2A (yd g2 (.inr (.inl rfl))) (by omega) ⟨by decide, by decide⟩ OB
  have qC := pk qB b3B (yd g3 (.inr (.inr rfl))) (by omega) ⟨by decide, by decide⟩ OC
  have qE := qC.poke yD (by omega) (fun q => by have h1 := qC.bg.mp; unfold MB at h1; exact Blk.nc h1 ncD q) (fun q => qC.st.nc ncD q) OE
  have FIN := hide (show MKept w0 w b jb pb mb sb X n S L A hn Mw Mn T wE from ⟨S', qE.less (fun x q => s4 x (.inl q)) (unhide HXM).1 (unhide HXM).2, s1, s2, (on.trans OAC (fun x _ q r => by have := unhide HX x r; omega)).trans OE (fun x _ q r => by have := unhide HX x r; omega)⟩)
  have E1 := B1C.only OE (fun q => by omega)
  have E2 := B2C.only OE (fun q => by omega)
  have E3 := B3C.only OE (fun q => by omega)
  have L1 := hide (iload_blk 69 _ E1 Tryz.underlying69 rfl (by rw [sizeTree]; simp [unhide HXL]))
  have L2 := hide (iload_blk 78 _ E2 Tryz.underlying78 rfl (by rw [sizeB]; simp [hbl]))
  have ce3 : wE.cell? ⟨g3, 0, none⟩ = some (.int .i64 0) := E3.cell 0
  have L3 := hide (show (loadVar 35 ⟨g3, 0, none⟩).run Tryz.prog wE = .ok (.int .i64 0) wE from by go_simp)
  clear ce3
  have R7 := hide (blk_range b7d)
  have R9 := hide (blk_range b9d)
  have R9A := hide (blk_range b9A)
  have T1 := hide (blk_there b1d xs.toArray.size (by simp [unhide HXL]))
  have T2 := hide (blk_there b2A bs.toArray.size (by simp [hbl]; rfl))
  have c3 : wB.cell? ⟨g3, 0, none⟩ = some (.int .i64 0) := b3B.cell 0
  have f3 := b3B.frozen 0
  have HBL := hide hbl
  have HBO := hide hbo
  clear b0 b1 b2 b3 b7 b9 bB on sz s1 s2 s3 s4 M1 b1d b2d b3d b9d b7d OA B1A b2A b9A OB B2B b3B B1B OC B3C B1C B2C OAC hDW OE ncD yD yd pk qA qB qC qE E1 E2 E3 hbl hbo hK
  gi_wp2
  refine wpIn_region_any (by kernel_rfl) ?_
  change wpAnyIn _ _ _ _ _ _ _ _ _ W.drew
  refine wpAnyIn_ready (rs := [0, 1]) (by kernel_rfl) (by simp) ?_
  refine AllReadyIn.cons rfl (fun K hK => ?o18) (AllReadyIn.cons rfl (fun K hK => ?o19) AllReadyIn.nil)
  case o18 =>
   simp only [List.getElem_toArray, List.getElem_cons_zero]
   rw [if_pos (by rfl)]
   refine wpIn_load_at 69 (.tmp 7) rfl g7 0 rfl _ _ (unhide R7) Tryz.underlying69 rfl (by rw [sizeTree, unhide HXL]) ?_
   refine hK _ _ ?_
   clear hK K
   refine wpAnyIn_ready (rs := [1, 2]) (by kernel_rfl) (by simp) ?_
   refine AllReadyIn.cons rfl (fun K hK => ?o20) (AllReadyIn.cons rfl (fun K hK => ?o21) AllReadyIn.nil)
   case o20 =>
    simp only [List.getElem_toArray, List.getElem_cons_succ, List.getElem_cons_zero]
    rw [if_pos (by rfl)]
    refine wpIn_load_at 78 (.tmp 9) rfl g9 0 rfl _ _ (unhide R9) Tryz.underlying78 rfl (by rw [sizeB, unhide HBL]) ?_
    refine hK _ _ ?_
    clear hK K
    refine wpAnyIn_ready (rs := [2]) (by kernel_rfl) (by simp) ?_
    refine AllReadyIn.cons rfl (fun K hK => ?o22) AllReadyIn.nil
    case o22 =>
     simp only [List.getElem_toArray, List.getElem_cons_succ, List.getElem_cons_zero]
     rw [if_pos (by rfl)]
     refine wpIn_store_at 69 (.tmp 4) (.tmp 44) rfl g1 0 xs.toArray rfl rfl (unhide T1) (by rw [sizeTree]; simp [unhide HXL]) (unhide HXO) ?_
     rw [List.toList_toArray, hwA]
     refine hK _ _ ?_
     clear hK K
     refine wpAnyIn_ready (rs := [3]) (by kernel_rfl) (by simp) ?_
     refine AllReadyIn.cons rfl (fun K hK => ?o23) AllReadyIn.nil
     case o23 =>
      simp only [List.getElem_toArray, List.getElem_cons_succ, List.getElem_cons_zero]
      rw [if_pos (by rfl)]
      refine wpIn_store_at 78 (.tmp 5) (.tmp 45) rfl g2 0 bs.toArray rfl rfl (unhide T2) (by rw [sizeB]; simp [unhide HBL]) (unhide HBO) ?_
      rw [List.toList_toArray, hwB]
      refine hK _ _ ?_
      clear hK K
      refine wpAnyIn_ready (rs := [4]) (by kernel_rfl) (by simp) ?_
      refine AllReadyIn.cons rfl (fun K hK => ?o24) AllReadyIn.nil
      case o24 =>
       simp only [List.getElem_toArray, List.getElem_cons_succ, List.getElem_cons_zero]
       go_simp
       refine hK _ _ ?_
       clear hK K
       refine wpAnyIn_done (by kernel_rfl) ?_ _
       gi_wp2
       refine ⟨by simp, .inl ⟨_, _, rfl, run_takeDeferred hKC, ?_⟩⟩
       rw [hwE]
       exact ⟨_, results_cell3 (p := 4) (q := 5) (r := 6) rfl _ _ _ ⟨g1, 0, none⟩ ⟨g2, 0, none⟩ ⟨g3, 0, none⟩ rfl rfl rfl _ _ _ (unhide L1) (unhide L2) (unhide L3), by rw [unhide HBS], unhide FIN⟩
   case o21 =>
    simp only [List.getElem_toArray, List.getElem_cons_succ, List.getElem_cons_zero]
    rw [if_pos (by rfl)]
    refine wpIn_store_at 69 (.tmp 4) (.tmp 44) rfl g1 0 xs.toArray rfl rfl (unhide T1) (by rw [sizeTree]; simp [unhide HXL]) (unhide HXO) ?_
    rw [List.toList_toArray, hwA]
    refine hK _ _ ?_
    clear hK K
    refine wpAnyIn_ready (rs := [1]) (by kernel_rfl) (by simp) ?_
    refine AllReadyIn.cons rfl (fun K hK => ?o25) AllReadyIn.nil
    case o25 =>
     simp only [List.getElem_toArray, List.getElem_cons_succ, List.getElem_cons_zero]
     rw [if_pos (by rfl)]
     refine wpIn_load_at 78 (.tmp 9) rfl g9 0 rfl _ _ (unhide R9A) Tryz.underlying78 rfl (by rw [sizeB, unhide HBL]) ?_
     refine hK _ _ ?_
     clear hK K
     refine wpAnyIn_ready (rs := [3]) (by kernel_rfl) (by simp) ?_
     refine AllReadyIn.cons rfl (fun K hK => ?o26) AllReadyIn.nil
     case o26 =>
      simp only [List.getElem_toArray, List.getElem_cons_succ, List.getElem_cons_zero]
      rw [if_pos (by rfl)]
      refine wpIn_store_at 78 (.tmp 5) (.tmp 45) rfl g2 0 bs.toArray rfl rfl (unhide T2) (by rw [sizeB]; simp [unhide HBL]) (unhide HBO) ?_
      rw [List.toList_toArray, hwB]
      refine hK _ _ ?_
      clear hK K
      refine wpAnyIn_ready (rs := [4]) (by kernel_rfl) (by simp) ?_
      refine AllReadyIn.cons rfl (fun K hK => ?o27) AllReadyIn.nil
      case o27 =>
       simp only [List.getElem_toArray, List.getElem_cons_succ, List.getElem_cons_zero]
       go_simp
       refine hK _ _ ?_
       clear hK K
       refine wpAnyIn_done (by kernel_rfl) ?_ _
       gi_wp2
       refine ⟨by simp, .inl ⟨_, _, rfl, run_takeDeferred hKC, ?_⟩⟩
       rw [hwE]
       exact ⟨_, results_cell3 (p := 4) (q := 5) (r := 6) rfl _ _ _ ⟨g1, 0, none⟩ ⟨g2, 0, none⟩ ⟨g3, 0, none⟩ rfl rfl rfl _ _ _ (unhide L1) (unhide L2) (unhide L3), by rw [unhide HBS], unhide FIN⟩
  case o19 =>
   simp only [List.getElem_toArray, List.getElem_cons_succ, List.getElem_cons_zero]
   rw [if_pos (by rfl)]
   refine wpIn_load_at 78 (.tmp 9) rfl g9 0 rfl _ _ (unhide R9) Tryz.underlying78 rfl (by rw [sizeB, unhide HBL]) ?_
   refine hK _ _ ?_
   clear hK K
   refine wpAnyIn_ready (rs := [0]) (by kernel_rfl) (by simp) ?_
   refine AllReadyIn.cons rfl (fun K hK => ?o28) AllReadyIn.nil
   case o28 =>
    simp only [List.getElem_toArray, List.getElem_cons_zero]
    rw [if_pos (by rfl)]
    refine wpIn_load_at 69 (.tmp 7) rfl g7 0 rfl _ _ (unhide R7) Tryz.underlying69 rfl (by rw [sizeTree, unhide HXL]) ?_
    refine hK _ _ ?_
    clear hK K
    refine wpAnyIn_ready (rs := [2]) (by kernel_rfl) (by simp) ?_
    refine AllReadyIn.cons rfl (fun K hK => ?o29) AllReadyIn.nil
    case o29 =>
     simp only [List.getElem_toArray, List.getElem_cons_succ, List.getElem_cons_zero]
     rw [if_pos (by rfl)]
     refine wpIn_store_at 69 (.tmp 4) (.tmp 44) rfl g1 0 xs.toArray rfl rfl (unhide T1) (by rw [sizeTree]; simp [unhide HXL]) (unhide HXO) ?_
     rw [List.toList_toArray, hwA]
     refine hK _ _ ?_
     clear hK K
     refine wpAnyIn_ready (rs := [3]) (by kernel_rfl) (by simp) ?_
     refine AllReadyIn.cons rfl (fun K hK => ?o30) AllReadyIn.nil
     case o30 =>
      simp only [List.getElem_toArray, List.getElem_cons_succ, List.getElem_cons_zero]
      rw [if_pos (by rfl)]
      refine wpIn_store_at 78 (.tmp 5) (.tmp 45) rfl g2 0 bs.toArray rfl rfl (unhide T2) (by rw [sizeB]; simp [unhide HBL]) (unhide HBO) ?_
      rw [List.toList_toArray, hwB]
      refine hK _ _ ?_
      clear hK K
      refine wpAnyIn_ready (rs := [4]) (by kernel_rfl) (by simp) ?_
      refine AllReadyIn.cons rfl (fun K hK => ?o31) AllReadyIn.nil
      case o31 =>
       simp only [List.getElem_toArray, List.getElem_cons_succ, List.getElem_cons_zero]
       go_simp
       refine hK _ _ ?_
       clear hK K
       refine wpAnyIn_done (by kernel_rfl) ?_ _
       gi_wp2
       refine ⟨by simp, .inl ⟨_, _, rfl, run_takeDeferred hKC, ?_⟩⟩
       rw [hwE]
       exact ⟨_, results_cell3 (p := 4) (q := 5) (r := 6) rfl _ _ _ ⟨g1, 0, none⟩ ⟨g2, 0, none⟩ ⟨g3, 0, none⟩ rfl rfl rfl _ _ _ (unhide L1) (unhide L2) (unhide L3), by rw [unhide HBS], unhide FIN⟩
 case stop =>
  rintro D c pre W _ _ hh _
  exact hh.elim
theorem sReadAll {w0 w : World} {b jb pb mb sb : Nat} {X : Nat → Prop} {n : Nat} {S : PS} {L : List ByteArray} {A : List (Nat × Nat)} {hn : Nat} {Mw Mn : List ByteArray} {T : Nat → Bool} (h : MG w0 w b jb pb mb sb X n S L A hn Mw Mn T) {m : Nat} {V : Nat → Vol} (hv : VS Mn n m T V) (k : Nat) (hk : k < m) : Calls Tryz.prog 34 #[.pointer (some ⟨sb, 0, none⟩), .int .i64 ((V k).r : Int)] w fun e w' => e = .returned (.tuple #[.agg (trC ((V k).r : Int) ((V k).num : Int) (V k).lf).toArray, .agg (bC (V k).e).toArray, .int .i64 0]) ∧ MKept w0 w b jb pb mb sb X n S L A hn Mw Mn T w' := (callsIn_wide (n := 6)).1 (readAll_in h hv k hk)
end Go.Proofs.YtiellebdliifdaaGreatDoor
