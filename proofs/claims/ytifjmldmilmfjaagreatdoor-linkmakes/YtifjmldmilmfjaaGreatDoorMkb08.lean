import Derived.Test.YtifjmldmilmfjaaGreatDoorMkb07
import Derived.Lib.AppendStr
import Derived.StillTailTactics
import Derived.Test.YtifjmldmilmfjaaGreatDoorMkb00
import Derived.RangeFuncBox
import Derived.Deep.AppendLies
namespace Go.Proofs.YtifjmldmilmfjaaGreatDoor
open Go.RowKit Go.Shelf
theorem wpListIn_append_str {F : Fence} {n : Nat} {ops : Array Oper} {rest : List Oper} {op : Oper} {a : Act} {w : World} {Q : Exit → Act → World → Prop} (hgd : op.guard = none) (d x : Operand) (hop : op.op = Op.call { callee := Callee.builtin Builtin.append, args := #[d, x], argTypes := #[86, 9] })
    (b sLen sCap : Nat) (t : ByteArray) (hd : a.eval d = .slice (some ⟨b, 0, none⟩) sLen sCap) (hx : a.eval x = .string t) (hroom : sLen + t.size ≤ sCap) (ht : w.there b sLen t.size)
    (h : ∀ w', w' = w.setCells b sLen ((nums t).map (Value.int .u8)) → wpListIn F n Tryz.prog ops Q rest (a.put op.dst (.slice (some ⟨b, 0, none⟩) (sLen + t.size) sCap)) w') : wpListIn F n Tryz.prog ops Q (op :: rest) a w := by
  refine wpListIn_plain hgd fun K hK => ?_
  have hrun := run_append_str w b sLen sCap t hroom ht op.type
  unfold Oper.wpIn
  refine ⟨?_, ?_⟩
  · simp [Oper.about, hop, resolve, Target.leads, Sem.run_pure]
  · rw [Oper.semAt_plain F _ _ (by rw [hop]; intro c hc'; cases hc')]
    simp [execOp, hop, resolve, invoke, builtin, hd, hx, hrun, Result.andThen]
    exact hK _ _ (h _ rfl)
/-- Between two rounds: the end's box, the given bytes' box, their row. -/
def GInv (w : World) (key : List Int) (r n : Nat) (pre : List Nat) (W : World) : Prop :=
  Boxed W w.heap.size 3 (.int .i64 ((r : Int) + (n : Int))) ∧ Boxed W (w.heap.size + 1 + 1) 86 (.slice (some ⟨w.heap.size + 1, 0, none⟩) (32 * pre.length) (r + n + 32)) ∧
  Arr W (w.heap.size + 1) 0 .u8 (pieces key pre ++ List.replicate (r + n + 32 - 32 * pre.length) 0) ∧ Below w.heap.size w W
theorem GInv.below {w : World} {key : List Int} {r n : Nat} {pre : List Nat} {W W' : World} (h : GInv w key r n pre W) (hb : Below (w.heap.size + 1 + 1 + 1) W W') : GInv w key r n pre W' :=
  ⟨(hb.block _ (by omega)).trans h.1, (hb.block _ (by omega)).trans h.2.1, h.2.2.1.below hb (by omega), h.2.2.2.trans (hb.mono (by omega))⟩
theorem GInv.own {w : World} {key : List Int} {r n : Nat} {pre : List Nat} {W W' : World} {B : Nat} {row : Option Nat} (h : GInv w key r n pre W) (hB : w.heap.size + 1 + 1 + 1 ≤ B) (hg : W.grownBy W' row) (hr : ∀ k, row = some k → B ≤ k) : GInv w key r n pre W' :=
  h.below ⟨hg.os, hg.tape, hg.output, hg.size, fun k hk => hg.block k (by have := h.2.1.lt; omega) (fun e => by have := hr k e.symm; omega)⟩
theorem GInv.add {w : World} {key : List Int} {r n : Nat} {pre : List Nat} {W : World} (h : GInv w key r n pre W) (hr : 32 * pre.length ≤ r + n) (x : Nat) (t : ByteArray) (ht : nums t = pieceP key x) :
    GInv w key r n (pre ++ [x]) ((W.setCells (w.heap.size + 1) (32 * pre.length) ((nums t).map (Value.int .u8))).setCell ⟨w.heap.size + 1 + 1, 0, none⟩ (.slice (some ⟨w.heap.size + 1, 0, none⟩) (32 * pre.length + 32) (r + n + 32))) := by
  have hp := pieces_len key pre
  have ht32 : (nums t).length = 32 := by rw [ht, pieceP_len]
  have hl : (pieces key pre ++ List.replicate (r + n + 32 - 32 * pre.length) (0 : Int)).length = r + n + 32 := by rw [List.length_append, hp, List.length_replicate]; omega
  have T := Touch.setCells ((nums t).map (Value.int .u8)) (32 * pre.length) (Touch.refl (w.heap.size + 1) W)
  have hlt := h.2.1.lt
  refine ⟨?_, ?_, ?_, ?_⟩
  · have h1 : Boxed (W.setCells (w.heap.size + 1) (32 * pre.length) ((nums t).map (Value.int .u8))) w.heap.size 3 (.int .i64 ((r : Int) + (n : Int))) := (T.1.block _ (by omega)).trans h.1
    exact h1.other (by omega) _
  · have h1 : Boxed (W.setCells (w.heap.size + 1) (32 * pre.length) ((nums t).map (Value.int .u8))) (w.heap.size + 1 + 1) 86 (.slice (some ⟨w.heap.size + 1, 0, none⟩) (32 * pre.length) (r + n + 32)) := (T.2 _ (by omega) hlt).trans h.2.1
    have h2 := h1.set (.slice (some ⟨w.heap.size + 1, 0, none⟩) (32 * pre.length + 32) (r + n + 32))
    rw [List.length_append, List.length_singleton, Nat.mul_add, Nat.mul_one]
    exact h2
  · have h1 := h.2.2.1.mid (32 * pre.length) (nums t) (by rw [hl, ht32]; omega)
    rw [Nat.zero_add, List.take_append_of_le_length (by omega), List.take_of_length_le (by omega), ht32, ← hp, ← List.drop_drop, List.drop_left, List.drop_replicate, ht, ← pieces_snoc] at h1
    rw [List.length_append, List.length_singleton, Nat.mul_add, Nat.mul_one, ht, ← hp]
    rw [hp, show r + n + 32 - 32 * pre.length - 32 = r + n + 32 - (32 * pre.length + 32) by omega, ← hp] at h1
    exact h1.other _ _ (.inl (by simp))
  · exact (below_setCells (by omega) _ _ h.2.2.2).setCell (p := ⟨w.heap.size + 1 + 1, 0, none⟩) (by simp; omega) _
end Go.Proofs.YtifjmldmilmfjaaGreatDoor

namespace Go.Proofs.YtifjmldmilmfjaaGreatDoor
open Go.RowKit Go.Shelf
attribute [local go_sem] Oper.semAt_some
def PartPost (w : World) (key : List Int) (f n : Nat) (e : Ending) (w' : World) : Prop :=
  ∃ b o, w.heap.size ≤ b ∧ b < w'.heap.size ∧ e = .returned (.slice (some ⟨b, o, none⟩) n n) ∧ Arr w' b o .u8 (partP key f n) ∧ Below w.heap.size w w'
theorem part_out {f q r n k : Nat} {key : List Int} {b z : Nat} {W W' : World} (hf : f = 32 * q + r) (hr : r < 32) (h : Arr W b 0 .u8 (pieces key (List.range' q k) ++ List.replicate z 0)) (hk : r + n ≤ 32 * k) {B : Nat} (hb : Below B W W') (hB : b < B) : Arr W' b r .u8 (partP key f n) := by
  have h1 : Arr W b 0 .u8 (pieces key (List.range' (f / 32) k)) := by
    rw [show f / 32 = q by omega]
    intro j hj
    have h2 := h j (by rw [List.length_append]; omega)
    rw [List.getD_eq_getElem?_getD, List.getElem?_append_left hj, ← List.getD_eq_getElem?_getD] at h2
    exact h2
  have h2 := h1.cutPart (n := n) (by omega)
  rw [show f % 32 = r by omega] at h2
  exact h2.below hb hB
set_option maxRecDepth 100000 in
set_option maxHeartbeats 1000000 in
theorem part_in (key : ByteArray) (q r n : Nat) (hkz : key.size ≤ 64) (hr : r < 32) (hfn : 32 * q + r + n ≤ 65536) (w : World) (hK : KTab w) :
    CallsIn Fence.wide 6 Tryz.prog 107 #[.string key, .int .i64 ((32 * q + r : Nat) : Int), .int .i64 (n : Int)] w (PartPost w (nums key) (32 * q + r) n) := by
  obtain ⟨f, hf⟩ : ∃ f, f = 32 * q + r := ⟨_, rfl⟩
  rw [← hf]
  have hmod : Int.tmod (f : Int) 32 = (r : Int) := by rw [Int.tmod_eq_emod_of_nonneg (by omega)]; omega
  have hdiv : Int.tdiv (f : Int) 32 = (q : Int) := by rw [Int.tdiv_eq_ediv_of_nonneg (by omega)]; omega
  have hq : q ≤ 2048 := by omega
  have hnn : n ≤ 65536 := by omega
  have hmk := fun W => run_make_u8 0 (r + n + 32) (by omega) (by omega) W
  simp only [Int.natCast_add, Int.cast_ofNat_Int] at hmk
  have HK := hide hK
  have HF := hide hf
  have HFN := hide hfn
  clear hK hf hfn
  refine callsIn_of_wp_marks Tryz.func107 rfl trivial ?_ rfl
  simp only [Tryz.ntmps107, List.size_toArray, List.length_cons, List.length_nil, Nat.reduceAdd, Nat.reduceSub, Array.replicate_succ, Array.replicate_zero, List.push_toArray, List.append_toArray, List.nil_append, List.cons_append]
  gi_wp2_with fail
  refine ⟨trivial, (callsIn_wide.2 (sums_any key q _)).mono ?_⟩
  rintro e w' ⟨rfl, rfl⟩
  clear hmk
  gi_wp2_with fail
  have bE := Boxed.new w 3 (.int .i64 ((r : Int) + (n : Int)))
  have aR := arr_new (w.alloc (Obj.cells #[Value.int IntKind.i64 ((r : Int) + (n : Int))] 3)) .u8 (List.replicate (r + n + 32) 0) 5 (Array.replicate (r + n + 32) (Value.int IntKind.u8 0)) (by simp)
  have bG := Boxed.new ((w.alloc (Obj.cells #[Value.int IntKind.i64 ((r : Int) + (n : Int))] 3)).alloc (Obj.cells (Array.replicate (r + n + 32) (Value.int IntKind.u8 0)) 5)) 86 (.slice (some ⟨w.heap.size + 1, 0, none⟩) 0 (r + n + 32))
  have bK := Boxed.new (((w.alloc (Obj.cells #[Value.int IntKind.i64 ((r : Int) + (n : Int))] 3)).alloc (Obj.cells (Array.replicate (r + n + 32) (Value.int IntKind.u8 0)) 5)).alloc (Obj.cells #[.slice (some ⟨w.heap.size + 1, 0, none⟩) 0 (r + n + 32)] 86)) 9 (.string key)
  have bF := Boxed.new ((((w.alloc (Obj.cells #[Value.int IntKind.i64 ((r : Int) + (n : Int))] 3)).alloc (Obj.cells (Array.replicate (r + n + 32) (Value.int IntKind.u8 0)) 5)).alloc (Obj.cells #[.slice (some ⟨w.heap.size + 1, 0, none⟩) 0 (r + n + 32)] 86)).alloc (Obj.cells #[.string key] 9)) 3 (.int .i64 (q : Int))
  have aR2 := (((aR.alloc (by simp) (Obj.cells #[.slice (some ⟨w.heap.size + 1, 0, none⟩) 0 (r + n + 32)] 86)).alloc (by simp) (Obj.cells #[.string key] 9)).alloc (by simp) (Obj.cells #[Value.int IntKind.i64 (q : Int)] 3))
  have bE2 := ((((bE.alloc (Obj.cells (Array.replicate (r + n + 32) (Value.int IntKind.u8 0)) 5)).alloc (Obj.cells #[.slice (some ⟨w.heap.size + 1, 0, none⟩) 0 (r + n + 32)] 86)).alloc (Obj.cells #[.string key] 9)).alloc (Obj.cells #[Value.int IntKind.i64 (q : Int)] 3))
  have bG2 := ((bG.alloc (Obj.cells #[.string key] 9)).alloc (Obj.cells #[Value.int IntKind.i64 (q : Int)] 3))
  have bK2 := (bK.alloc (Obj.cells #[Value.int IntKind.i64 (q : Int)] 3))
  have hB5 : Below w.heap.size w (((((w.alloc (Obj.cells #[Value.int IntKind.i64 ((r : Int) + (n : Int))] 3)).alloc (Obj.cells (Array.replicate (r + n + 32) (Value.int IntKind.u8 0)) 5)).alloc (Obj.cells #[.slice (some ⟨w.heap.size + 1, 0, none⟩) 0 (r + n + 32)] 86)).alloc (Obj.cells #[.string key] 9)).alloc (Obj.cells #[Value.int IntKind.i64 (q : Int)] 3)) :=
    (((((Below.refl _ w).alloc (Nat.le_refl _) _).alloc (by simp) _).alloc (by simp; omega) _).alloc (by simp; omega) _).alloc (by simp; omega) _
  simp only [World.size_alloc] at bG bK bF aR2 bE2 bG2 bK2
  have h5 : (((((w.alloc (Obj.cells #[Value.int IntKind.i64 ((r : Int) + (n : Int))] 3)).alloc (Obj.cells (Array.replicate (r + n + 32) (Value.int IntKind.u8 0)) 5)).alloc (Obj.cells #[.slice (some ⟨w.heap.size + 1, 0, none⟩) 0 (r + n + 32)] 86)).alloc (Obj.cells #[.string key] 9)).alloc (Obj.cells #[Value.int IntKind.i64 (q : Int)] 3)).heap.size = w.heap.size + 5 := by simp
  obtain ⟨W5, hW5⟩ : ∃ W5, (((((w.alloc (Obj.cells #[Value.int IntKind.i64 ((r : Int) + (n : Int))] 3)).alloc (Obj.cells (Array.replicate (r + n + 32) (Value.int IntKind.u8 0)) 5)).alloc (Obj.cells #[.slice (some ⟨w.heap.size + 1, 0, none⟩) 0 (r + n + 32)] 86)).alloc (Obj.cells #[.string key] 9)).alloc (Obj.cells #[Value.int IntKind.i64 (q : Int)] 3)) = W5 := ⟨_, rfl⟩
  rw [hW5] at bE2 aR2 bG2 bK2 bF hB5 h5 ⊢
  have hG0 : GInv w (nums key) r n [] W5 := ⟨bE2, bG2, by simpa [pieces] using aR2, hB5⟩
  clear bE aR bG bK hW5 bE2 bG2 aR2
  have hK5 : KTab W5 := (unhide HK).below hB5 (unhide HK).1
  refine wpIn_rangeFunc_ownG rfl (by omega) (gf := 120) (lb := #[.pointer (some ⟨w.heap.size + 1 + 1 + 1 + 1, 0, none⟩), .pointer (some ⟨w.heap.size + 1 + 1 + 1, 0, none⟩)]) rfl trivial (enters_of Tryz.func120 (by kernel_rfl) rfl)
    (sums_stops 5 (w.heap.size + 1 + 1 + 1 + 1) (w.heap.size + 1 + 1 + 1) w.heap.size q key hkz hq (unhide HK).1 W5 (by omega) (by omega) bF.cell bK2.cell hK5) kp_t (kp_b (by omega) (by omega)) (Below.refl _ _) (fun _ => rfl)
    (fun pre W => GInv w (nums key) r n pre W ∧ (pre = [] ∨ 32 * pre.length < r + n) ∧ W5.heap.size ≤ W.heap.size)
    (fun c pre W => c = .exit 0 ∧ GInv w (nums key) r n pre W ∧ r + n ≤ 32 * pre.length)
    (fun _ _ _ _ hs hg hr => ⟨hs.1.own (B := W5.heap.size) (by omega) hg (fun k e => (hr k e).1), hs.2.1, Nat.le_trans hs.2.2 hg.size⟩)
    (fun _ _ _ _ _ hs hg hr => ⟨hs.1, hs.2.1.own (B := W5.heap.size) (by omega) hg (fun k e => (hr k e).1), hs.2.2⟩)
    ⟨hG0, .inl rfl, Nat.le_refl _⟩
    (fun x => { tmps := #[.string key, .int .i64 (f : Int), .int .i64 (n : Int), undef, undef, undef, .slice none 0 0, .int .i64 (r : Int), .pointer (some ⟨w.heap.size, 0, none⟩), .pointer (some ⟨w.heap.size + 1 + 1, 0, none⟩), .string (pieceB key x), .int .i64 (f : Int), .int .i64 (r : Int), .int .i64 (r : Int), .int .i64 (n : Int), .int .i64 ((r : Int) + (n : Int)), .int .i64 ((r : Int) + (n : Int)), .int .i64 ((r : Int) + (n : Int) + 32),
      .slice (some ⟨w.heap.size + 1, 0, none⟩) 0 (r + n + 32), .string key, .int .i64 (f : Int), .int .i64 (q : Int), .func (.func 120) #[] #[.pointer (some ⟨w.heap.size + 1 + 1 + 1 + 1, 0, none⟩), .pointer (some ⟨w.heap.size + 1 + 1 + 1, 0, none⟩)], .string (pieceB key x), undef, undef, undef, undef, undef, undef, undef, undef, undef, undef, undef, undef], defers := [] }) ?assign ?body ?done ?stop
  case assign =>
    intro l x W K hK
    gi_wp2
    exact hK
  case body =>
    rintro l pre x W ⟨hG, hpre, hWs⟩ _
    have hlen : 32 * pre.length ≤ r + n := by
      rcases hpre with rfl | h
      · simp
      · omega
    have c1 := hG.1.cell
    have c2 := hG.2.1.cell
    have f2 := hG.2.1.frozen
    have hp := pieces_len (nums key) pre
    have hth : W.there (w.heap.size + 1) (32 * pre.length) (pieceB key x).size := by
      rw [pieceB_size]
      intro j hj
      have hl : 32 * pre.length + j < (pieces (nums key) pre ++ List.replicate (r + n + 32 - 32 * pre.length) (0 : Int)).length := by rw [List.length_append, hp, List.length_replicate]; omega
      have h1 := hG.2.2.1.get (32 * pre.length + j) hl
      have h2 := hG.2.2.1.free (32 * pre.length + j) hl
      rw [Nat.zero_add] at h1 h2
      exact ⟨by rw [h1]; rfl, h2⟩
    have hps := pieceB_size key x
    have HAD := hide (hG.add hlen x (pieceB key x) (nums_pieceB key x))
    have T := Touch.setCells ((nums (pieceB key x)).map (Value.int .u8)) (32 * pre.length) (Touch.refl (w.heap.size + 1) W)
    have hlt := hG.2.1.lt
    have c1b := (T.cell (c := w.heap.size) (by omega) (by omega) 0).trans c1
    have c2b := (T.cell (c := w.heap.size + 1 + 1) (by omega) hlt 0).trans c2
    have f2b := (T.frozen (c := w.heap.size + 1 + 1) (by omega) hlt 0).trans f2
    have hKF : KeepsFrom W5.heap.size W ((W.setCells (w.heap.size + 1) (32 * pre.length) ((nums (pieceB key x)).map (Value.int .u8))).setCell ⟨w.heap.size + 1 + 1, 0, none⟩ (.slice (some ⟨w.heap.size + 1, 0, none⟩) (32 * pre.length + 32) (r + n + 32))) :=
      ⟨by simp; exact T.1.size, fun k o hB hk _ => by rw [Below.heap_setCell _ _ _ _ (by simp; omega), T.2 k (by omega) (Array.getElem?_eq_some_iff.1 hk).1]; exact hk⟩
    have hKp : Kp (w.heap.size + 1 + 1 + 1) w.heap.size W ((W.setCells (w.heap.size + 1) (32 * pre.length) ((nums (pieceB key x)).map (Value.int .u8))).setCell ⟨w.heap.size + 1 + 1, 0, none⟩ (.slice (some ⟨w.heap.size + 1, 0, none⟩) (32 * pre.length + 32) (r + n + 32))) :=
      ⟨(T.1.mono (by omega)).setCell (p := ⟨w.heap.size + 1 + 1, 0, none⟩) (by simp; omega) _, by rw [Below.heap_setCell _ _ _ _ (by simp), T.2 _ (by omega) (by omega)]⟩
    obtain ⟨t, ht⟩ : ∃ t, t = pieceB key x := ⟨_, rfl⟩
    obtain ⟨m, hm⟩ : ∃ m, m = 32 * pre.length := ⟨_, rfl⟩
    have HM := hide hm
    have hml : m ≤ r + n := by omega
    rw [← ht, ← hm] at hKF hKp hth c1b c2b f2b
    rw [← hm] at c2
    rw [← ht] at hps ⊢
    have HKF := hide hKF
    have HKP := hide hKp
    rw [← ht, ← hm] at HAD
    clear T hKF hKp hG hpre hlen hp hm ht
    gi_wp2_with (gi_at_builtin; refine wpListIn_append_str rfl (.tmp 24) (.tmp 25) rfl (w.heap.size + 1) m (r + n + 32) t rfl rfl (by omega) hth ?_; rintro w1 rfl; rw [hps])
    · exact ⟨unhide HKF, rfl, unhide HAD, by have := unhide HM; simp; omega⟩
    · exact ⟨unhide HKF, unhide HKP, unhide HAD, .inr (by have := unhide HM; simp; omega), Nat.le_trans hWs (unhide HKF).size⟩
  case done =>
    rintro D xs W hD rfl ⟨hG, hpre, hWs⟩ hK
    have hfn := unhide HFN
    have hkk : r + n ≤ 32 * (2048 - q) := by omega
    have c1 := hG.1.cell
    have c2 := hG.2.1.cell
    have HA := hide (hG.2.2.1)
    have HB := hide hG.2.2.2
    obtain ⟨m, hm⟩ : ∃ m, m = 32 * (List.range' q (2048 - q)).length := ⟨_, rfl⟩
    rw [← hm] at c2
    have HLT := hide hG.2.1.lt
    clear hG hpre hm hfn
    gi_wp2
    · have h0 : n = 0 := by omega
      refine ⟨by simp, .inl ⟨_, _, rfl, run_takeDeferred hK, ?_⟩⟩
      refine ⟨_, results_tmp rfl _ _ _, w.heap.size + 1, 0, by omega, ?_, by rw [h0]; rfl, ?_, (unhide HB).trans (belowK_b (w := W5) (by omega) W D _ _ hD hK rfl rfl)⟩
      · have := unhide HLT
        simp [World.putObj]
        omega
      · rw [h0]
        intro j hj
        simp [partP] at hj
    · refine ⟨by simp, .inl ⟨_, _, rfl, run_takeDeferred hK, ?_⟩⟩
      refine ⟨_, results_tmp rfl _ _ _, w.heap.size + 1, r, by omega, ?_, rfl, ?_, (unhide HB).trans (belowK_b (w := W5) (by omega) W D _ _ hD hK rfl rfl)⟩
      · have := unhide HLT
        simp [World.putObj]
        omega
      · exact part_out (unhide HF) hr (unhide HA) hkk (belowK_b (n₀ := w.heap.size + 1 + 1) (w := W5) (by omega) W D _ _ hD hK rfl rfl) (by omega)
  case stop =>
    rintro D c pre W hD ⟨k, rfl⟩ ⟨rfl, hG, hkk⟩ hK
    rw [List.length_range'] at hkk
    have c1 := hG.1.cell
    have c2 := hG.2.1.cell
    have HA := hide (hG.2.2.1)
    have HB := hide hG.2.2.2
    obtain ⟨m, hm⟩ : ∃ m, m = 32 * (List.range' q k).length := ⟨_, rfl⟩
    rw [← hm] at c2
    have HLT := hide hG.2.1.lt
    clear hG hm
    gi_wp2
    · have h0 : n = 0 := by omega
      refine ⟨by simp, .inl ⟨_, _, rfl, run_takeDeferred hK, ?_⟩⟩
      refine ⟨_, results_tmp rfl _ _ _, w.heap.size + 1, 0, by omega, ?_, by rw [h0]; rfl, ?_, (unhide HB).trans (belowK_b (w := W5) (by omega) W D _ _ hD hK rfl rfl)⟩
      · have := unhide HLT
        simp [World.putObj]
        omega
      · rw [h0]
        intro j hj
        simp [partP] at hj
    · refine ⟨by simp, .inl ⟨_, _, rfl, run_takeDeferred hK, ?_⟩⟩
      refine ⟨_, results_tmp rfl _ _ _, w.heap.size + 1, r, by omega, ?_, rfl, ?_, (unhide HB).trans (belowK_b (w := W5) (by omega) W D _ _ hD hK rfl rfl)⟩
      · have := unhide HLT
        simp [World.putObj]
        omega
      · exact part_out (unhide HF) hr (unhide HA) hkk (belowK_b (n₀ := w.heap.size + 1 + 1) (w := W5) (by omega) W D _ _ hD hK rfl rfl) (by omega)
theorem part_any (key : ByteArray) (f n : Nat) (hkz : key.size ≤ 64) (hfn : f + n ≤ 65536) (w : World) (hK : KTab w) :
    Calls Tryz.prog 107 #[.string key, .int .i64 (f : Int), .int .i64 (n : Int)] w (PartPost w (nums key) f n) := by
  have h := callsIn_wide.1 (part_in key (f / 32) (f % 32) n hkz (by omega) (by omega) w hK)
  rw [show 32 * (f / 32) + f % 32 = f by omega] at h
  exact h
end Go.Proofs.YtifjmldmilmfjaaGreatDoor

namespace Go.Proofs.YtifjmldmilmfjaaGreatDoor
open Go.RowKit
set_option maxHeartbeats 400000 in
theorem isKey_any (s : ByteArray) (w : World) : Calls Tryz.prog 106 #[.string s] w fun e w' => e = .returned (.bool (decide (s.size = 32))) ∧ w' = w := by
  by_cases h : s.size = 32
  · have h1 : ((s.size : Int) == 32) = true := by simp; omega
    go_enter Tryz.func106, Tryz.ntmps106
    go_wp2
    go_ret
    exact ⟨by simp [h], rfl⟩
  · have h1 : ((s.size : Int) == 32) = false := by simp; omega
    go_enter Tryz.func106, Tryz.ntmps106
    go_wp2
    go_ret
    exact ⟨by simp [h], rfl⟩
theorem xor8_comm (x y : Int) (hx : 0 ≤ x ∧ x < 256) (hy : 0 ≤ y ∧ y < 256) : bits .xor .u8 x y = bits .xor .u8 y x := by
  obtain ⟨X, rfl⟩ := Int.eq_ofNat_of_zero_le hx.1
  obtain ⟨Y, rfl⟩ := Int.eq_ofNat_of_zero_le hy.1
  rw [u8_xor_nat X Y (by omega) (by omega), u8_xor_nat Y X (by omega) (by omega), Nat.xor_comm]
/-- A row of bytes of the call's own, turned place by place. -/
def LInv (w : World) (b o : Nat) (L : List Int) (wr : World) : Prop := Arr wr b o .u8 L ∧ Below w.heap.size w wr ∧ w.heap.size ≤ b
theorem LInv.put {w : World} {b o : Nat} {L L' : List Int} {wr : World} (h : LInv w b o L wr) (t : Nat) (ht : t < L.length) (v : Int) (e : L.set t v = L') : LInv w b o L' (wr.setCell ⟨b, o + t, none⟩ (.int .u8 v)) := by
  subst e
  exact ⟨h.1.set t ht v, h.2.1.setCell (p := ⟨b, o + t, none⟩) h.2.2 _, h.2.2⟩
set_option maxRecDepth 100000 in
set_option maxHeartbeats 1000000 in
theorem laidOn_any (key : ByteArray) (f : Nat) (s : ByteArray) (hkz : key.size ≤ 64) (hfn : f + s.size ≤ 65536) (w : World) (hK : KTab w) :
    Calls Tryz.prog 94 #[.string key, .int .i64 (f : Int), .string s] w fun e w' => e = .returned (.string (strOfNums (laidP (nums s) (partP (nums key) f s.size)))) ∧ Below w.heap.size w w' := by
  have HK := hide hK
  have hsl := nums_len s
  have hL := laidP_len (nums s) (partP (nums key) f s.size)
  have hPl := partP_len (nums key) f s.size
  have hPb := partP_bytes (nums key) f s.size
  have hLg := fun t => laidP_getD (nums s) (partP (nums key) f s.size) t
  have HCALL := hide (part_any key f s.size hkz hfn w hK)
  obtain ⟨P, hP⟩ : ∃ P, P = partP (nums key) f s.size := ⟨_, rfl⟩
  rw [← hP] at hL hPl hLg hPb ⊢
  obtain ⟨Lx, hLx⟩ : ∃ Lx, Lx = laidP (nums s) P := ⟨_, rfl⟩
  rw [← hLx] at hL hLg ⊢
  rw [hsl] at hL hLg
  have HP := hide hP
  clear hK hP hLx
  go_enter Tryz.func94, Tryz.ntmps94
  go_wp2_with fail
  refine (unhide HCALL).mono ?_
  rintro e w1 ⟨b, o, hb, hb1, rfl, hA, hB⟩
  rw [← unhide HP] at hA
  have h0 : LInv w b o (Lx.take 0 ++ P.drop 0) w1 := ⟨by simpa using hA, hB, hb⟩
  have H0 := hide h0
  clear hA hB h0 HCALL HP
  go_wp2
  go_loopw [16] (fun i wr => ∃ t : Nat, t ≤ s.size ∧ i = .int .i64 (t : Int) ∧ Hid (LInv w b o (Lx.take t ++ P.drop t) wr)) (fun i _ => s.size - (intOf i).toNat)
  case atStart => exact ⟨0, by omega, rfl, H0⟩
  case round =>
    obtain ⟨t, ht, rfl, HI⟩ := hrel
    by_cases htl : t < s.size
    · have hI := unhide HI
      have hlen : (Lx.take t ++ P.drop t).length = s.size := by simp [hL, hPl]; omega
      have c1 := hI.1.get t (by omega)
      have f1 := hI.1.free t (by omega)
      rw [getD_take_drop _ _ _ (by omega)] at c1
      have hix := index_str s t htl
      have hv := hLg t htl
      rw [xor8_comm _ _ (nums_bytes s t) (hPb t)] at hv
      have HE := hide (take_set Lx P t _ (by omega) (by omega) hv.symm)
      have HLEN := hide hlen
      have HV := hide hv
      clear hI hlen hv hLg hL hPl hsl
      generalize (nums s).getD t 0 = x at *
      generalize P.getD t 0 = y at *
      have i0 : 0 ≤ (t : Int) := by omega
      have i1 : (t : Int) < (s.size : Int) := by omega
      go_wp2
      go_still_tail 9, (by kernel_rfl)
      change wpList _ _ _ _ _ wr.drew
      go_wp2
      go_roundw
      case rel =>
        have h := (unhide HI).put t (by rw [unhide HLEN]; omega) _ (unhide HE)
        exact ⟨t + 1, by omega, by go_num, ⟨h.1.drew, h.2.1.drew, h.2.2⟩⟩
      case measure => simp [intOf]; omega
    · have e64 : t = s.size := by omega
      have hI := unhide HI
      rw [List.take_of_length_le (by omega), List.drop_of_length_le (by omega), List.append_nil] at hI
      have hcv := run_convert_bytes_arg (P := Tryz.prog) wr 86 5 Tryz.underlying86 Tryz.underlying5 b o s.size s.size Lx (by omega) (fun i hi => hI.1.get i (by omega)) 9 Tryz.underlying9
      have HB := hide hI.2.1
      clear hI HI H0 hLg hPb
      go_wp2
      go_ret
      exact ⟨rfl, unhide HB⟩
end Go.Proofs.YtifjmldmilmfjaaGreatDoor

namespace Go.Proofs.YtifjmldmilmfjaaGreatDoor
open Go.RowKit
/-- Which error a part of a stream has; the part. -/
def errP (key : ByteArray) (f n : Int) : Int := if key.size = 32 then (if 0 ≤ f ∧ 0 ≤ n ∧ f + n ≤ 65536 then 0 else 21) else 20
theorem errP_zero {key : ByteArray} {f n : Int} : errP key f n = 0 ↔ key.size = 32 ∧ 0 ≤ f ∧ 0 ≤ n ∧ f + n ≤ 65536 := by
  unfold errP
  by_cases h1 : key.size = 32
  · by_cases h2 : 0 ≤ f ∧ 0 ≤ n ∧ f + n ≤ 65536
    · simp [h1, h2]
    · simp [h1, h2]
  · simp [h1]
theorem errP_20 {key : ByteArray} {f n : Int} (h : ¬ key.size = 32) : errP key f n = 20 := by simp [errP, h]
theorem errP_21 {key : ByteArray} {f n : Int} (h : key.size = 32) (h2 : ¬ (0 ≤ f ∧ 0 ≤ n ∧ f + n ≤ 65536)) : errP key f n = 21 := by
  unfold errP
  rw [if_pos h, if_neg h2]
def xorB (key : ByteArray) (f : Int) (s : ByteArray) : ByteArray := if errP key f s.size = 0 then strOfNums (laidP (nums s) (partP (nums key) f.toNat s.size)) else ⟨#[]⟩
set_option maxHeartbeats 400000 in
theorem partErrno_any (key : ByteArray) (f n : Int) (_hf : I64 f) (hn : I64 n) (w : World) :
    Calls Tryz.prog 93 #[.string key, .int .i64 f, .int .i64 n] w fun e w' => e = .returned (.int .i64 (errP key f n)) ∧ w' = w := by
  obtain ⟨hn1, hn2⟩ := hn
  by_cases hk : key.size = 32
  · have hd : decide (key.size = 32) = true := by simp [hk]
    by_cases h1 : f < 0
    · have HE := hide (errP_21 (f := f) (n := n) hk (by omega))
      clear hk
      go_enter Tryz.func93, Tryz.ntmps93
      go_wp2_with fail
      refine (isKey_any key w).mono ?_
      rintro e w1 ⟨rfl, rfl⟩
      rw [hd]
      go_wp2
      go_ret
      exact ⟨by rw [unhide HE]; rfl, rfl⟩
    · by_cases h2 : n < 0
      · have HE := hide (errP_21 (f := f) (n := n) hk (by omega))
        have h1' : 0 ≤ f := by omega
        clear hk
        go_enter Tryz.func93, Tryz.ntmps93
        go_wp2_with fail
        refine (isKey_any key w).mono ?_
        rintro e w1 ⟨rfl, rfl⟩
        rw [hd]
        go_wp2
        go_ret
        exact ⟨by rw [unhide HE]; rfl, rfl⟩
      · have h1' : 0 ≤ f := by omega
        have h2' : 0 ≤ n := by omega
        by_cases h3 : 65536 - n < f
        · have HE := hide (errP_21 (f := f) (n := n) hk (by omega))
          clear hk
          go_enter Tryz.func93, Tryz.ntmps93
          go_wp2_with fail
          refine (isKey_any key w).mono ?_
          rintro e w1 ⟨rfl, rfl⟩
          rw [hd]
          go_wp2
          go_ret
          exact ⟨by rw [unhide HE]; rfl, rfl⟩
        · have HE := hide ((errP_zero (f := f) (n := n)).2 ⟨hk, h1', h2', by omega⟩)
          have h3' : f ≤ 65536 - n := by omega
          clear hk
          go_enter Tryz.func93, Tryz.ntmps93
          go_wp2_with fail
          refine (isKey_any key w).mono ?_
          rintro e w1 ⟨rfl, rfl⟩
          rw [hd]
          go_wp2
          go_ret
          exact ⟨by rw [unhide HE]; rfl, rfl⟩
  · have hd : decide (key.size = 32) = false := by simp [hk]
    have HE := hide (errP_20 (f := f) (n := n) hk)
    clear hk
    go_enter Tryz.func93, Tryz.ntmps93
    go_wp2_with fail
    refine (isKey_any key w).mono ?_
    rintro e w1 ⟨rfl, rfl⟩
    rw [hd]
    go_wp2
    go_ret
    exact ⟨by rw [unhide HE]; rfl, rfl⟩
set_option maxHeartbeats 400000 in
theorem xor_any (key : ByteArray) (f : Int) (s : ByteArray) (hf : I64 f) (hs : s.size ≤ 140737488355328) (w : World) (hK : KTab w) :
    Calls Tryz.prog 69 #[.string key, .int .i64 f, .string s] w fun e w' => e = .returned (.tuple #[.string (xorB key f s), .int .i64 (errP key f s.size)]) ∧ Below w.heap.size w w' := by
  have hn : I64 (s.size : Int) := ⟨by omega, by omega⟩
  by_cases h : errP key f s.size = 0
  · obtain ⟨h1, h2, h3, h4⟩ := errP_zero.1 h
    obtain ⟨F, rfl⟩ := Int.eq_ofNat_of_zero_le h2
    have HS := hide (show xorB key F s = strOfNums (laidP (nums s) (partP (nums key) F s.size)) by rw [xorB, if_pos h]; rfl)
    have HC := hide (partErrno_any key F s.size hf hn w)
    have HP := hide (laidOn_any key F s (by omega) (by omega) w hK)
    have H := hide h
    rw [unhide HS, unhide H]
    clear hf hn h h1 h2 h3 h4 hK
    go_enter Tryz.func69, Tryz.ntmps69
    go_wp2_with fail
    refine (unhide HC).mono ?_
    rintro e w1 ⟨rfl, rfl⟩
    rw [unhide H]
    go_wp2_with fail
    refine (unhide HP).mono ?_
    rintro e w2 ⟨rfl, hB⟩
    have HB := hide hB
    clear hB
    go_wp2
    go_ret2
    exact ⟨rfl, unhide HB⟩
  · have HS := hide (show xorB key f s = ⟨#[]⟩ by rw [xorB, if_neg h])
    have HC := hide (partErrno_any key f s.size hf hn w)
    rw [unhide HS]
    generalize errP key f s.size = E at *
    clear hf hn hK
    go_enter Tryz.func69, Tryz.ntmps69
    go_wp2_with fail
    refine (unhide HC).mono ?_
    rintro e w1 ⟨rfl, rfl⟩
    go_wp2
    go_ret2
    exact ⟨rfl, Below.refl _ _⟩
end Go.Proofs.YtifjmldmilmfjaaGreatDoor

namespace Go.Proofs.YtifjmldmilmfjaaGreatDoor
open Go.RowKit
/-- Block b is this row of cells, of type T, none of them frozen. -/
def Blk (w : World) (b : Nat) (cur : Array Value) (T : TypeId) : Prop := w.heap[b]? = some (.cells cur T (0, 0))
theorem Blk.lt {w : World} {b : Nat} {cur : Array Value} {T : TypeId} (h : Blk w b cur T) : b < w.heap.size := (Array.getElem?_eq_some_iff.1 h).1
theorem Blk.cell {w : World} {b : Nat} {cur : Array Value} {T : TypeId} (h : Blk w b cur T) (j : Nat) : w.cell? ⟨b, j, none⟩ = cur[j]? := by simp [World.cell?, show w.heap[b]? = _ from h]
theorem Blk.frozen {w : World} {b : Nat} {cur : Array Value} {T : TypeId} (h : Blk w b cur T) (j : Nat) : w.frozen? ⟨b, j, none⟩ = false := by simp [World.frozen?, show w.heap[b]? = _ from h]
theorem Blk.new (w : World) (T : TypeId) (cur : Array Value) : Blk (w.alloc (.cells cur T)) w.heap.size cur T := World.alloc_heap_new w _
theorem Blk.kept {w w' : World} {b : Nat} {cur : Array Value} {T : TypeId} (h : Blk w b cur T) (e : w'.heap[b]? = w.heap[b]?) : Blk w' b cur T := e.trans h
theorem Blk.alloc {w : World} {b : Nat} {cur : Array Value} {T : TypeId} (h : Blk w b cur T) (o : Obj) : Blk (w.alloc o) b cur T :=
  h.kept ((World.grownBy_alloc w o none).block b h.lt (by simp))
theorem Blk.set {w : World} {b : Nat} {cur : Array Value} {T : TypeId} (h : Blk w b cur T) (o : Nat) (v : Value) : Blk (w.setCell ⟨b, o, none⟩ v) b (cur.setIfInBounds o v) T := by
  obtain ⟨hlt, hk⟩ := Array.getElem?_eq_some_iff.1 h
  show (w.heap.modify b _)[b]? = _
  rw [Array.getElem?_eq_getElem (by rw [Array.size_modify]; exact hlt), Array.getElem_modify_self, hk]
  rfl
theorem Blk.other {w : World} {b : Nat} {cur : Array Value} {T : TypeId} (h : Blk w b cur T) (a : Addr) (v : Value) (ha : a.block ≠ b) : Blk (w.setCell a v) b cur T :=
  h.kept (Below.heap_setCell _ _ _ _ (fun e => ha e.symm))
theorem Blk.below {w w' : World} {B b : Nat} {cur : Array Value} {T : TypeId} (h : Blk w b cur T) (hb : Below B w w') (hB : b < B) : Blk w' b cur T := h.kept (hb.block b hB)
theorem Blk.not_row {w : World} {b : Nat} {cur : Array Value} {T e : TypeId} (h : Blk w b cur T) (hte : T ≠ e) {base size k : Nat} {v : Value} {xs : List Value} (hr : w.ownsRow base e size v k xs) : v.ownBlock ≠ some b := by
  rcases hr.2 with ⟨rfl, _⟩ | ⟨g, cap, cur', rfl, _, hgb, _⟩
  · simp [Value.ownBlock]
  · intro e'
    obtain rfl : g = b := by simpa [Value.ownBlock] using e'
    have := (show w.heap[g]? = _ from h).symm.trans hgb
    simp at this
    exact hte this.2
/-- From w to w' nothing that lay there has changed but in blocks of P. -/
def Only (P : Nat → Prop) (w w' : World) : Prop := Below 0 w w' ∧ ∀ k, k < w.heap.size → ¬ P k → w'.heap[k]? = w.heap[k]?
theorem Only.refl (P : Nat → Prop) (w : World) : Only P w w := ⟨Below.refl _ _, fun _ _ _ => rfl⟩
theorem Only.trans {P Q : Nat → Prop} {w w1 w2 : World} (h : Only P w w1) (k : Only Q w1 w2) (hq : ∀ k, k < w.heap.size → Q k → P k) : Only P w w2 :=
  ⟨h.1.trans k.1, fun j hj hp => (k.2 j (Nat.lt_of_lt_of_le hj h.1.size) (fun q => hp (hq j hj q))).trans (h.2 j hj hp)⟩
theorem Only.mono {P Q : Nat → Prop} {w w' : World} (h : Only P w w') (hq : ∀ k, k < w.heap.size → P k → Q k) : Only Q w w' := ⟨h.1, fun j hj hp => h.2 j hj (fun q => hp (hq j hj q))⟩
theorem Only.of_below {P : Nat → Prop} {w w' : World} (h : Below w.heap.size w w') : Only P w w' := ⟨h.mono (Nat.zero_le _), fun k hk _ => h.block k hk⟩
theorem Only.below {P : Nat → Prop} {w w' : World} {B : Nat} (h : Only P w w') (hB : B ≤ w.heap.size) (hp : ∀ k, k < B → ¬ P k) : Below B w w' :=
  ⟨h.1.os, h.1.tape, h.1.output, h.1.size, fun k hk => h.2 k (by omega) (hp k hk)⟩
theorem Only.setCell {P : Nat → Prop} {w w' : World} (h : Only P w w') (a : Addr) (v : Value) (ha : a.block < w.heap.size → P a.block) : Only P w (w'.setCell a v) :=
  ⟨h.1.setCell (Nat.zero_le _) v, fun k hk hp => (Below.heap_setCell _ _ _ _ (fun e => by subst e; exact hp (ha hk))).trans (h.2 k hk hp)⟩
theorem Only.alloc {P : Nat → Prop} {w w' : World} (h : Only P w w') (o : Obj) : Only P w (w'.alloc o) :=
  h.trans (Q := fun _ => False) ⟨(Below.refl 0 w').alloc (Nat.zero_le _) o, fun k hk _ => (World.grownBy_alloc w' o none).block k hk (by simp)⟩ (fun _ _ q => q.elim)
theorem Only.drew {P : Nat → Prop} {w w' : World} (h : Only P w w') : Only P w w'.drew := ⟨h.1.drew, h.2⟩
theorem Only.drewN {P : Nat → Prop} {w w' : World} (h : Only P w w') (n : Nat) : Only P w (w'.drewN n) := ⟨below_drewN h.1 n, h.2⟩
theorem Only.grown {P : Nat → Prop} {w w1 w2 : World} {row : Option Nat} (h : Only P w w1) (hg : w1.grownBy w2 row) (hr : ∀ k, k < w.heap.size → row = some k → P k) : Only P w w2 :=
  h.trans (Q := fun k => row = some k) ⟨⟨hg.os, hg.tape, hg.output, hg.size, fun k hk => absurd hk (Nat.not_lt_zero k)⟩, fun k hk hn => hg.block k hk (fun e => hn e.symm)⟩ hr
theorem Only.size {P : Nat → Prop} {w w' : World} (h : Only P w w') : w.heap.size ≤ w'.heap.size := h.1.size
theorem Blk.only {w w' : World} {b : Nat} {cur : Array Value} {T : TypeId} {P : Nat → Prop} (h : Blk w b cur T) (ho : Only P w w') (hp : ¬ P b) : Blk w' b cur T := h.kept (ho.2 b h.lt hp)
theorem Arr.only {w w' : World} {c o : Nat} {k : IntKind} {l : List Int} {P : Nat → Prop} (h : Arr w c o k l) (ho : Only P w w') (hp : ¬ P c) (hc : c < w.heap.size) : Arr w' c o k l := by
  intro j hj
  have e := ho.2 c hc hp
  rw [World.cell?_of_block (a := ⟨c, o + j, none⟩) e, World.frozen?_of_block (a := ⟨c, o + j, none⟩) e]
  exact h j hj
theorem owns_only {w w' : World} {base : Nat} {e : TypeId} {size n : Nat} {v : Value} {xs : List Value} {P : Nat → Prop} (h : w.ownsRow base e size v n xs) (ho : Only P w w') (hp : ∀ k, v.ownBlock = some k → ¬ P k) : w'.ownsRow base e size v n xs := by
  refine ⟨h.1, ?_⟩
  rcases h.2 with hn | ⟨g, cap, cur, rfl, hb, hg, rest⟩
  · exact .inl hn
  · exact .inr ⟨g, cap, cur, rfl, hb, (ho.2 g (Array.getElem?_eq_some_iff.1 hg).1 (hp g rfl)).trans hg, rest⟩
/-- Appending nothing. -/
theorem run_append_none (w : World) (p q : Option Addr) (n c c' : Nat) (hn : n ≤ c) (ty : TypeId) :
    (Builtin.append_ #[86, 86] ty #[.slice p n c, .slice q 0 c']).run Tryz.prog w = .ok (.slice p n c) w := by
  obtain ⟨i0, hi, hz0, hz1, hz2⟩ := info_parts info5
  have hl : ∀ a, (loadCells a 0).run Tryz.prog w = .ok #[] w := fun a => rfl
  cases p <;> cases q <;> simp [hl, Builtin.append_, run_underlying Tryz.underlying86, sizeOf, typeInfo, hi, hz1, Builtin.lenOf, hn, Builtin.firstCells, storeCells, Result.andThen]
end Go.Proofs.YtifjmldmilmfjaaGreatDoor
