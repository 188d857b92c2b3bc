import Derived.Test.YtbnefbncjnfjdaaDoorSpg
namespace Go.Proofs.YtbnefbncjnfjdaaDoor
open Go.RowKit Go.Shelf
attribute [local go_sem] Oper.semAt_some
def PartPost (w : World) (key : List Int) (f n : Nat) (e : Ending) (w' : World) : Prop :=
  ∃ b o, w.heap.size ≤ b ∧ b < w'.heap.size ∧ e = .returned (.slice (some ⟨b, o, none⟩) n n) ∧ Arr w' b o .u8 (partP key f n) ∧ Below w.heap.size w w'
theorem part_out {f q r n k : Nat} {key : List Int} {b z : Nat} {W W' : World} (hf : f = 32 * q + r) (hr : r < 32) (h : Arr W b 0 .u8 (pieces key (List.range' q k) ++ List.replicate z 0)) (hk : r + n ≤ 32 * k) {B : Nat} (hb : Below B W W') (hB : b < B) : Arr W' b r .u8 (partP key f n) := by
  have h1 : Arr W b 0 .u8 (pieces key (List.range' (f / 32) k)) := by
    rw [show f / 32 = q by omega]
    intro j hj
    have h2 := h j (by rw [List.length_append]; omega)
    rw [List.getD_eq_getElem?_getD, List.getElem?_append_left hj, ← List.getD_eq_getElem?_getD] at h2
    exact h2
  have h2 := h1.cutPart (n := n) (by omega)
  rw [show f % 32 = r by omega] at h2
  exact h2.below hb hB
set_option maxRecDepth 100000 in
set_option maxHeartbeats 1000000 in
theorem part_in (key : ByteArray) (q r n : Nat) (hkz : key.size ≤ 64) (hr : r < 32) (hfn : 32 * q + r + n ≤ 65536) (w : World) (hK : KTab w) :
    CallsIn Fence.wide 6 Tryd.prog 28 #[.string key, .int .i64 ((32 * q + r : Nat) : Int), .int .i64 (n : Int)] w (PartPost w (nums key) (32 * q + r) n) := by
  obtain ⟨f, hf⟩ : ∃ f, f = 32 * q + r := ⟨_, rfl⟩
  rw [← hf]
  have hmod : Int.tmod (f : Int) 32 = (r : Int) := by rw [Int.tmod_eq_emod_of_nonneg (by omega)]; omega
  have hdiv : Int.tdiv (f : Int) 32 = (q : Int) := by rw [Int.tdiv_eq_ediv_of_nonneg (by omega)]; omega
  have hq : q ≤ 2048 := by omega
  have hnn : n ≤ 65536 := by omega
  have hmk := fun W => run_make_u8 0 (r + n + 32) (by omega) (by omega) W
  simp only [Int.natCast_add, Int.cast_ofNat_Int] at hmk
  have HK := hide hK
  have HF := hide hf
  have HFN := hide hfn
  clear hK hf hfn
  refine callsIn_of_wp_marks Tryd.func28 rfl trivial ?_ rfl
  simp only [Tryd.ntmps28, List.size_toArray, List.length_cons, List.length_nil, Nat.reduceAdd, Nat.reduceSub, Array.replicate_succ, Array.replicate_zero, List.push_toArray, List.append_toArray, List.nil_append, List.cons_append]
  gi_wp2_with fail
  refine ⟨trivial, (callsIn_wide.2 (sums_any key q _)).mono ?_⟩
  rintro e w' ⟨rfl, rfl⟩
  clear hmk
  gi_wp2_with fail
  have bE := Boxed.new w 3 (.int .i64 ((r : Int) + (n : Int)))
  have aR := arr_new (w.alloc (Obj.cells #[Value.int IntKind.i64 ((r : Int) + (n : Int))] 3)) .u8 (List.replicate (r + n + 32) 0) 5 (Array.replicate (r + n + 32) (Value.int IntKind.u8 0)) (by simp)
  have bG := Boxed.new ((w.alloc (Obj.cells #[Value.int IntKind.i64 ((r : Int) + (n : Int))] 3)).alloc (Obj.cells (Array.replicate (r + n + 32) (Value.int IntKind.u8 0)) 5)) 37 (.slice (some ⟨w.heap.size + 1, 0, none⟩) 0 (r + n + 32))
  have bK := Boxed.new (((w.alloc (Obj.cells #[Value.int IntKind.i64 ((r : Int) + (n : Int))] 3)).alloc (Obj.cells (Array.replicate (r + n + 32) (Value.int IntKind.u8 0)) 5)).alloc (Obj.cells #[.slice (some ⟨w.heap.size + 1, 0, none⟩) 0 (r + n + 32)] 37)) 9 (.string key)
  have bF := Boxed.new ((((w.alloc (Obj.cells #[Value.int IntKind.i64 ((r : Int) + (n : Int))] 3)).alloc (Obj.cells (Array.replicate (r + n + 32) (Value.int IntKind.u8 0)) 5)).alloc (Obj.cells #[.slice (some ⟨w.heap.size + 1, 0, none⟩) 0 (r + n + 32)] 37)).alloc (Obj.cells #[.string key] 9)) 3 (.int .i64 (q : Int))
  have aR2 := (((aR.alloc (by simp) (Obj.cells #[.slice (some ⟨w.heap.size + 1, 0, none⟩) 0 (r + n + 32)] 37)).alloc (by simp) (Obj.cells #[.string key] 9)).alloc (by simp) (Obj.cells #[Value.int IntKind.i64 (q : Int)] 3))
  have bE2 := ((((bE.alloc (Obj.cells (Array.replicate (r + n + 32) (Value.int IntKind.u8 0)) 5)).alloc (Obj.cells #[.slice (some ⟨w.heap.size + 1, 0, none⟩) 0 (r + n + 32)] 37)).alloc (Obj.cells #[.string key] 9)).alloc (Obj.cells #[Value.int IntKind.i64 (q : Int)] 3))
  have bG2 := ((bG.alloc (Obj.cells #[.string key] 9)).alloc (Obj.cells #[Value.int IntKind.i64 (q : Int)] 3))
  have bK2 := (bK.alloc (Obj.cells #[Value.int IntKind.i64 (q : Int)] 3))
  have hB5 : Below w.heap.size w (((((w.alloc (Obj.cells #[Value.int IntKind.i64 ((r : Int) + (n : Int))] 3)).alloc (Obj.cells (Array.replicate (r + n + 32) (Value.int IntKind.u8 0)) 5)).alloc (Obj.cells #[.slice (some ⟨w.heap.size + 1, 0, none⟩) 0 (r + n + 32)] 37)).alloc (Obj.cells #[.string key] 9)).alloc (Obj.cells #[Value.int IntKind.i64 (q : Int)] 3)) :=
    (((((Below.refl _ w).alloc (Nat.le_refl _) _).alloc (by simp) _).alloc (by simp; omega) _).alloc (by simp; omega) _).alloc (by simp; omega) _
  simp only [World.size_alloc] at bG bK bF aR2 bE2 bG2 bK2
  have h5 : (((((w.alloc (Obj.cells #[Value.int IntKind.i64 ((r : Int) + (n : Int))] 3)).alloc (Obj.cells (Array.replicate (r + n + 32) (Value.int IntKind.u8 0)) 5)).alloc (Obj.cells #[.slice (some ⟨w.heap.size + 1, 0, none⟩) 0 (r + n + 32)] 37)).alloc (Obj.cells #[.string key] 9)).alloc (Obj.cells #[Value.int IntKind.i64 (q : Int)] 3)).heap.size = w.heap.size + 5 := by simp
  obtain ⟨W5, hW5⟩ : ∃ W5, (((((w.alloc (Obj.cells #[Value.int IntKind.i64 ((r : Int) + (n : Int))] 3)).alloc (Obj.cells (Array.replicate (r + n + 32) (Value.int IntKind.u8 0)) 5)).alloc (Obj.cells #[.slice (some ⟨w.heap.size + 1, 0, none⟩) 0 (r + n + 32)] 37)).alloc (Obj.cells #[.string key] 9)).alloc (Obj.cells #[Value.int IntKind.i64 (q : Int)] 3)) = W5 := ⟨_, rfl⟩
  rw [hW5] at bE2 aR2 bG2 bK2 bF hB5 h5 ⊢
  have hG0 : GInv w (nums key) r n [] W5 := ⟨bE2, bG2, by simpa [pieces] using aR2, hB5⟩
  clear bE aR bG bK hW5 bE2 bG2 aR2
  have hK5 : KTab W5 := (unhide HK).below hB5 (unhide HK).1
  refine wpIn_rangeFunc_ownG rfl (by omega) (gf := 55) (lb := #[.pointer (some ⟨w.heap.size + 1 + 1 + 1 + 1, 0, none⟩), .pointer (some ⟨w.heap.size + 1 + 1 + 1, 0, none⟩)]) rfl trivial (enters_of Tryd.func55 (by kernel_rfl) rfl)
    (sums_stops 5 (w.heap.size + 1 + 1 + 1 + 1) (w.heap.size + 1 + 1 + 1) w.heap.size q key hkz hq (unhide HK).1 W5 (by omega) (by omega) bF.cell bK2.cell hK5) kp_t (kp_b (by omega) (by omega)) (Below.refl _ _) (fun _ => rfl)
    (fun pre W => GInv w (nums key) r n pre W ∧ (pre = [] ∨ 32 * pre.length < r + n) ∧ W5.heap.size ≤ W.heap.size)
    (fun c pre W => c = .exit 0 ∧ GInv w (nums key) r n pre W ∧ r + n ≤ 32 * pre.length)
    (fun _ _ _ _ hs hg hr => ⟨hs.1.own (B := W5.heap.size) (by omega) hg (fun k e => (hr k e).1), hs.2.1, Nat.le_trans hs.2.2 hg.size⟩)
    (fun _ _ _ _ _ hs hg hr => ⟨hs.1, hs.2.1.own (B := W5.heap.size) (by omega) hg (fun k e => (hr k e).1), hs.2.2⟩)
    ⟨hG0, .inl rfl, Nat.le_refl _⟩
    (fun x => { tmps := #[.string key, .int .i64 (f : Int), .int .i64 (n : Int), undef, undef, undef, .slice none 0 0, .int .i64 (r : Int), .pointer (some ⟨w.heap.size, 0, none⟩), .pointer (some ⟨w.heap.size + 1 + 1, 0, none⟩), .string (pieceB key x), .int .i64 (f : Int), .int .i64 (r : Int), .int .i64 (r : Int), .int .i64 (n : Int), .int .i64 ((r : Int) + (n : Int)), .int .i64 ((r : Int) + (n : Int)), .int .i64 ((r : Int) + (n : Int) + 32),
      .slice (some ⟨w.heap.size + 1, 0, none⟩) 0 (r + n + 32), .string key, .int .i64 (f : Int), .int .i64 (q : Int), .func (.func 55) #[] #[.pointer (some ⟨w.heap.size + 1 + 1 + 1 + 1, 0, none⟩), .pointer (some ⟨w.heap.size + 1 + 1 + 1, 0, none⟩)], .string (pieceB key x), undef, undef, undef, undef, undef, undef, undef, undef, undef, undef, undef, undef], defers := [] }) ?assign ?body ?done ?stop
  case assign =>
    intro l x W K hK
    gi_wp2
    exact hK
  case body =>
    rintro l pre x W ⟨hG, hpre, hWs⟩ _
    have hlen : 32 * pre.length ≤ r + n := by
      rcases hpre with rfl | h
      · simp
      · omega
    have c1 := hG.1.cell
    have c2 := hG.2.1.cell
    have f2 := hG.2.1.frozen
    have hp := pieces_len (nums key) pre
    have hth : W.there (w.heap.size + 1) (32 * pre.length) (pieceB key x).size := by
      rw [pieceB_size]
      intro j hj
      have hl : 32 * pre.length + j < (pieces (nums key) pre ++ List.replicate (r + n + 32 - 32 * pre.length) (0 : Int)).length := by rw [List.length_append, hp, List.length_replicate]; omega
      have h1 := hG.2.2.1.get (32 * pre.length + j) hl
      have h2 := hG.2.2.1.free (32 * pre.length + j) hl
      rw [Nat.zero_add] at h1 h2
      exact ⟨by rw [h1]; rfl, h2⟩
    have hps := pieceB_size key x
    have HAD := hide (hG.add hlen x (pieceB key x) (nums_pieceB key x))
    have T := Touch.setCells ((nums (pieceB key x)).map (Value.int .u8)) (32 * pre.length) (Touch.refl (w.heap.size + 1) W)
    have hlt := hG.2.1.lt
    have c1b := (T.cell (c := w.heap.size) (by omega) (by omega) 0).trans c1
    have c2b := (T.cell (c := w.heap.size + 1 + 1) (by omega) hlt 0).trans c2
    have f2b := (T.frozen (c := w.heap.size + 1 + 1) (by omega) hlt 0).trans f2
    have hKF : KeepsFrom W5.heap.size W ((W.setCells (w.heap.size + 1) (32 * pre.length) ((nums (pieceB key x)).map (Value.int .u8))).setCell ⟨w.heap.size + 1 + 1, 0, none⟩ (.slice (some ⟨w.heap.size + 1, 0, none⟩) (32 * pre.length + 32) (r + n + 32))) :=
      ⟨by simp; exact T.1.size, fun k o hB hk _ => by rw [Below.heap_setCell _ _ _ _ (by simp; omega), T.2 k (by omega) (Array.getElem?_eq_some_iff.1 hk).1]; exact hk⟩
    have hKp : Kp (w.heap.size + 1 + 1 + 1) w.heap.size W ((W.setCells (w.heap.size + 1) (32 * pre.length) ((nums (pieceB key x)).map (Value.int .u8))).setCell ⟨w.heap.size + 1 + 1, 0, none⟩ (.slice (some ⟨w.heap.size + 1, 0, none⟩) (32 * pre.length + 32) (r + n + 32))) :=
      ⟨(T.1.mono (by omega)).setCell (p := ⟨w.heap.size + 1 + 1, 0, none⟩) (by simp; omega) _, by rw [Below.heap_setCell _ _ _ _ (by simp), T.2 _ (by omega) (by omega)]⟩
    obtain ⟨t, ht⟩ : ∃ t, t = pieceB key x := ⟨_, rfl⟩
    obtain ⟨m, hm⟩ : ∃ m, m = 32 * pre.length := ⟨_, rfl⟩
    have HM := hide hm
    have hml : m ≤ r + n := by omega
    rw [← ht, ← hm] at hKF hKp hth c1b c2b f2b
    rw [← hm] at c2
    rw [← ht] at hps ⊢
    have HKF := hide hKF
    have HKP := hide hKp
    rw [← ht, ← hm] at HAD
    clear T hKF hKp hG hpre hlen hp hm ht
    gi_wp2_with (gi_at_builtin; refine wpListIn_append_str rfl (.tmp 24) (.tmp 25) rfl (w.heap.size + 1) m (r + n + 32) t rfl rfl (by omega) hth ?_; rintro w1 rfl; rw [hps])
    · exact ⟨unhide HKF, rfl, unhide HAD, by have := unhide HM; simp; omega⟩
    · exact ⟨unhide HKF, unhide HKP, unhide HAD, .inr (by have := unhide HM; simp; omega), Nat.le_trans hWs (unhide HKF).size⟩
  case done =>
    rintro D xs W hD rfl ⟨hG, hpre, hWs⟩ hK
    have hfn := unhide HFN
    have hkk : r + n ≤ 32 * (2048 - q) := by omega
    have c1 := hG.1.cell
    have c2 := hG.2.1.cell
    have HA := hide (hG.2.2.1)
    have HB := hide hG.2.2.2
    obtain ⟨m, hm⟩ : ∃ m, m = 32 * (List.range' q (2048 - q)).length := ⟨_, rfl⟩
    rw [← hm] at c2
    have HLT := hide hG.2.1.lt
    clear hG hpre hm hfn
    gi_wp2
    · have h0 : n = 0 := by omega
      refine ⟨by simp, .inl ⟨_, _, rfl, run_takeDeferred hK, ?_⟩⟩
      refine ⟨_, results_tmp rfl _ _ _, w.heap.size + 1, 0, by omega, ?_, by rw [h0]; rfl, ?_, (unhide HB).trans (belowK_b (w := W5) (by omega) W D _ _ hD hK rfl rfl)⟩
      · have := unhide HLT
        simp [World.putObj]
        omega
      · rw [h0]
        intro j hj
        simp [partP] at hj
    · refine ⟨by simp, .inl ⟨_, _, rfl, run_takeDeferred hK, ?_⟩⟩
      refine ⟨_, results_tmp rfl _ _ _, w.heap.size + 1, r, by omega, ?_, rfl, ?_, (unhide HB).trans (belowK_b (w := W5) (by omega) W D _ _ hD hK rfl rfl)⟩
      · have := unhide HLT
        simp [World.putObj]
        omega
      · exact part_out (unhide HF) hr (unhide HA) hkk (belowK_b (n₀ := w.heap.size + 1 + 1) (w := W5) (by omega) W D _ _ hD hK rfl rfl) (by omega)
  case stop =>
    rintro D c pre W hD ⟨k, rfl⟩ ⟨rfl, hG, hkk⟩ hK
    rw [List.length_range'] at hkk
    have c1 := hG.1.cell
    have c2 := hG.2.1.cell
    have HA := hide (hG.2.2.1)
    have HB := hide hG.2.2.2
    obtain ⟨m, hm⟩ : ∃ m, m = 32 * (List.range' q k).length := ⟨_, rfl⟩
    rw [← hm] at c2
    have HLT := hide hG.2.1.lt
    clear hG hm
    gi_wp2
    · have h0 : n = 0 := by omega
      refine ⟨by simp, .inl ⟨_, _, rfl, run_takeDeferred hK, ?_⟩⟩
      refine ⟨_, results_tmp rfl _ _ _, w.heap.size + 1, 0, by omega, ?_, by rw [h0]; rfl, ?_, (unhide HB).trans (belowK_b (w := W5) (by omega) W D _ _ hD hK rfl rfl)⟩
      · have := unhide HLT
        simp [World.putObj]
        omega
      · rw [h0]
        intro j hj
        simp [partP] at hj
    · refine ⟨by simp, .inl ⟨_, _, rfl, run_takeDeferred hK, ?_⟩⟩
      refine ⟨_, results_tmp rfl _ _ _, w.heap.size + 1, r, by omega, ?_, rfl, ?_, (unhide HB).trans (belowK_b (w := W5) (by omega) W D _ _ hD hK rfl rfl)⟩
      · have := unhide HLT
        simp [World.putObj]
        omega
      · exact part_out (unhide HF) hr (unhide HA) hkk (belowK_b (n₀ := w.heap.size + 1 + 1) (w := W5) (by omega) W D _ _ hD hK rfl rfl) (by omega)
theorem part_any (key : ByteArray) (f n : Nat) (hkz : key.size ≤ 64) (hfn : f + n ≤ 65536) (w : World) (hK : KTab w) :
    Calls Tryd.prog 28 #[.string key, .int .i64 (f : Int), .int .i64 (n : Int)] w (PartPost w (nums key) f n) := by
  have h := callsIn_wide.1 (part_in key (f / 32) (f % 32) n hkz (by omega) (by omega) w hK)
  rw [show 32 * (f / 32) + f % 32 = f by omega] at h
  exact h
end Go.Proofs.YtbnefbncjnfjdaaDoor
