import Derived.Test.YtjiigapphhekmaaGreatDoorMr44
namespace Go.Proofs.YtjiigapphhekmaaGreatDoor
open Go.RowKit Go.Maps Go.Sort Go.Shelf
/-- The first rows are marked. -/
def Mk (N : Nat → Nat) (C : Nat → List Value) (i j : Nat) : Prop := ∀ k, k < 4 → (C k).length = N k ∧ ∀ a, a < N k → (k < i ∨ (k = i ∧ a < j)) → (C k)[a]? = some (.string (mkB k))
theorem Mk.step {N : Nat → Nat} {C : Nat → List Value} {i j : Nat} (h : Mk N C i j) (hi : i < 4) (hj : j < N i) : Mk N (fun k => if k = i then (C i).set j (.string (mkB i)) else C k) i (j + 1) := fun k hk => by
  obtain ⟨h1, h2⟩ := h k hk
  by_cases e : k = i
  · subst e
    simp only [if_true, List.length_set]
    refine ⟨h1, fun a ha hor => ?_⟩
    rw [List.getElem?_set]
    by_cases q : j = a
    · rw [if_pos q, if_pos (by omega)]
    · rw [if_neg q]
      exact h2 a ha (.inr ⟨rfl, by omega⟩)
  · simp only [if_neg e]
    exact ⟨h1, fun a ha hor => h2 a ha (by omega)⟩
theorem Mk.next {N : Nat → Nat} {C : Nat → List Value} {i : Nat} (h : Mk N C i (N i)) : Mk N C (i + 1) 0 := fun k hk => by
  obtain ⟨h1, h2⟩ := h k hk
  refine ⟨h1, fun a ha hor => ?_⟩
  by_cases e : k = i
  · subst e
    exact h2 a ha (.inr ⟨rfl, ha⟩)
  · exact h2 a ha (by omega)
/-- The first rows are grown. -/
def Gw (N : Nat → Nat) (C : Nat → List Value) (i j : Nat) : Prop := ∀ k, k < 4 → (C k).length = N k + (if k < i then 64 else if k = i then j else 0) ∧ ∀ a, a < (C k).length → (C k)[a]? = some (.string (mkB k))
theorem Gw.start {N : Nat → Nat} {C : Nat → List Value} (h : Mk N C 4 0) : Gw N C 0 0 := fun k hk => by
  obtain ⟨h1, h2⟩ := h k hk
  refine ⟨by rw [h1, if_neg (by omega)]; split <;> rfl, fun a ha => h2 a (by omega) (.inl (by omega))⟩
theorem Gw.step {N : Nat → Nat} {C : Nat → List Value} {i j : Nat} (h : Gw N C i j) (hi : i < 4) : Gw N (fun k => if k = i then C i ++ [.string (mkB i)] else C k) i (j + 1) := fun k hk => by
  obtain ⟨h1, h2⟩ := h k hk
  by_cases e : k = i
  · subst e
    rw [if_neg (by omega), if_pos rfl] at h1
    simp only [if_true, List.length_append, List.length_singleton]
    refine ⟨by rw [if_neg (by omega)]; omega, fun a ha => ?_⟩
    by_cases q : a < (C k).length
    · rw [List.getElem?_append_left q]; exact h2 a q
    · rw [List.getElem?_append_right (by omega), show a - (C k).length = 0 by omega]
      rfl
  · simp only [if_neg e]
    exact ⟨by simpa [e] using h1, h2⟩
theorem Gw.next {N : Nat → Nat} {C : Nat → List Value} {i : Nat} (h : Gw N C i 64) : Gw N C (i + 1) 0 := fun k hk => by
  obtain ⟨h1, h2⟩ := h k hk
  refine ⟨?_, h2⟩
  rw [h1]
  by_cases e : k = i
  · subst e
    rw [if_neg (by omega), if_pos rfl, if_pos (by omega)]
  · by_cases q : k < i
    · rw [if_pos q, if_pos (by omega)]
    · rw [if_neg q, if_neg e, if_neg (by omega)]
      split <;> rfl
def InL (y0 : World) (count other : Int) (k : Nat) (u : Value) (wr : World) : Prop :=
  ∃ v, RR y0.heap.size 42 9 wr u k v (fun i => strs (PLz (cz count other i))) ∧ Below y0.heap.size y0 wr
set_option maxRecDepth 100000 in
set_option maxHeartbeats 8000000 in
theorem initials_walk (count : Int) (_hc : I64 count) (other : Int) (_ho : I64 other) (w : World) (hg : ETy w) :
    Calls Tryz.prog 4 #[.int .i64 count, .int .i64 other] w fun e w' => e = .returned (.bool true) ∧ Below w.heap.size w w' := by
  have HKN := hide (known7_any w hg)
  clear hg
  obtain ⟨i0, hi, hz0, hz1, hz2⟩ := info_parts infoSl
  have HIN := hide (And.intro hi (And.intro hz0 (And.intro hz1 hz2)))
  clear hi hz0 hz1 hz2
  go_enter Tryz.func4, Tryz.ntmps4
  go_wp2_with fail
  refine (unhide HKN).mono ?_
  rintro e x0 ⟨rfl, hb0⟩
  have HB0 := hide hb0
  clear hb0 HKN
  obtain ⟨gc, hgc⟩ : ∃ q, x0.heap.size = q := ⟨_, rfl⟩
  obtain ⟨y0, hy0⟩ : ∃ q, x0.alloc (.cells #[.int .i64 count, .int .i64 count, .int .i64 other, .int .i64 count] 3) = q := ⟨_, rfl⟩
  have HCT := hide (show (∀ k, k < 4 → y0.cell? ⟨gc, k, none⟩ = some (.int .i64 (cz count other k))) ∧ gc < y0.heap.size ∧ Below w.heap.size w y0 from by
    rw [← hy0, ← hgc]
    exact ⟨fun k hk => by rw [(Blk.new x0 3 _).cell k]; exact cz_cell count other k hk, by simp, (unhide HB0).alloc (unhide HB0).size _⟩)
  go_wp2
  clear hy0 hgc
  go_loopw [7, 8, 9, 10, 11, 12, 13] (fun u i _ _ _ _ _ wr => ∃ k : Nat, k ≤ 4 ∧ i = .int .i64 (k : Int) ∧ InL y0 count other k u wr) (fun _ i _ _ _ _ _ _ => 4 - (intOf i).toNat)
  case atStart => exact ⟨0, by omega, rfl, fun _ => .slice none 0 0, RR.new _ _ _ _ _ _, Below.refl _ _⟩
  case round =>
    obtain ⟨k, hk, rfl, v, hRR, hB⟩ := hrel
    obtain ⟨wo, rfl⟩ : ∃ wo, wo = wr := ⟨_, rfl⟩
    obtain ⟨pv, cv, rfl, hcv⟩ := row_form hRR.row
    by_cases hkn : k < 4
    · have hkn' : (k : Int) < 4 := by omega
      have hk0 : (0 : Int) ≤ (k : Int) := by omega
      have cg : wo.cell? ⟨gc, k, none⟩ = some (.int .i64 (cz count other k)) := by
        rw [hB.cell (p := ⟨gc, k, none⟩) (unhide HCT).2.1]; exact (unhide HCT).1 k hkn
      obtain ⟨z, hz⟩ : ∃ z, cz count other k = z := ⟨_, rfl⟩
      rw [hz] at cg
      have HRI := hide (rinit_all z wo)
      have HX := hide (And.intro hRR (And.intro hB hz))
      have hpl := PLz_len z
      obtain ⟨er, her⟩ : ∃ q, erZ z = q := ⟨_, rfl⟩
      rw [her] at HRI
      have HER := hide her
      clear hRR hB hcv hz her
      go_wp2_with fail
      refine (unhide HRI).mono ?_
      rintro e y1 ⟨vw, rfl, hw1, hb1⟩
      have cg1 : y1.cell? ⟨gc, k, none⟩ = some (.int .i64 z) := by
        rw [hb1.cell (p := ⟨gc, k, none⟩) (World.block_lt_of_cell? wo _ cg)]; exact cg
      have HMI := hide (minit_all z y1)
      rw [unhide HER] at HMI
      obtain ⟨pw, cw, hvw, hiw⟩ := Strs.own hw1
      have HW1 := hide (And.intro hw1 (And.intro hb1 hiw))
      subst hvw
      clear hw1 hb1 hiw HRI cg
      obtain ⟨ln, hln⟩ : ∃ q, (PLz z).length = q := ⟨_, rfl⟩
      rw [hln] at HMI hpl ⊢
      have HLN := hide hln
      clear hln
      go_wp2_with fail
      refine (unhide HMI).mono ?_
      rintro e y2 ⟨vx, rfl, hx2, hb2⟩
      rw [← unhide HLN] at hx2
      obtain ⟨px, cx, hvx, hix⟩ := Strs.own hx2
      subst hvx
      have HST := hide (texts7_any y2 px pw cx cw (PLz z) (PLz z).length rfl (by have := unhide HLN; omega) hix ((unhide HW1).2.2.below hb2))
      rw [unhide HLN] at HST ⊢
      have HX2 := hide (And.intro hx2 hb2)
      clear hx2 hb2 hix HMI cg1
      go_wp2_with fail
      refine (unhide HST).mono ?_
      rintro e y3 ⟨rfl, hb3⟩
      have hee : (er != er) = false := by simp
      have HPU := hide (show ∃ vx' : Value, vx' = .slice px ln cx ∧ y3.ownsRow y0.heap.size 9 1 vx' ln (strs (PLz z)) ∧ RR y0.heap.size 42 9 y3 (.slice pv k cv) k v (fun i => strs (PLz (cz count other i))) ∧ (∀ i, i < k → ∀ y, (v i).ownBlock = some y → vx'.ownBlock ≠ some y) ∧ Below y0.heap.size y0 y3 ∧ y0.heap.size ≤ y3.heap.size from by
        obtain ⟨hRR, hB, _⟩ := unhide HX
        obtain ⟨hw1, hb1, _⟩ := unhide HW1
        obtain ⟨hx2, hb2⟩ := unhide HX2
        rw [unhide HLN] at hx2
        have hb12 : Below wo.heap.size wo y2 := hb1.trans (hb2.mono hb1.size)
        have hb13 : Below wo.heap.size wo y3 := hb12.trans (hb3.mono hb12.size)
        refine ⟨_, rfl, owns_lower (owns_only hx2 (Only.of_below (P := fun _ => False) hb3) (fun _ _ q => q)) (Nat.le_trans hB.size hb1.size), hRR.below hb13, fun i hi y hy q => ?_, hB.trans (hb13.mono hB.size), Nat.le_trans hB.size hb13.size⟩
        have l1 := ((hRR.own i hi).lt y hy).2
        have l2 := (hx2.lt y q).1
        have := hb1.size
        omega)
      have HZ := hide (unhide HX).2.2
      clear hb3 HST HX HW1 HX2
      obtain ⟨vx', hvx', hxo, hRR, hdx, hB3, hsz⟩ := unhide HPU
      have HRA := hide (show (y3.alloc (.cells #[.slice px ln cx] 42)).ownsRow y0.heap.size 42 1 (.slice pv k cv) k ((List.range k).map v) from hRR.row.alloc _)
      have HXB := hide (show Below y0.heap.size y0 (y3.alloc (.cells #[.slice px ln cx] 42)) from hB3.alloc hB3.size _)
      have HQ := hide (And.intro hxo (And.intro hRR hdx))
      clear hxo hRR hdx hB3 HPU
      go_wp2_with (refine wpList_append_own _ rfl (.tmp 62) (.tmp 64) 41 rfl y0.heap.size 42 i0 (.slice none 0 0) 1 24 Tryz.underlying41 (unhide HIN).1 (unhide HIN).2.1 (unhide HIN).2.2.1 (unhide HIN).2.2.2 rfl (by decide) _ k ((List.range k).map v) rfl (unhide HRA) ⟨y3.heap.size, 0, none⟩ 1 1 [.slice px ln cx] rfl rfl (fun q u hu => news_one y3 42 _ q u hu) (by simp [Value.oneCell']) (by unfold maxLen; omega) (by omega) (unhide HXB).size ?_)
      intro v5 x5 ho5 hg5 _
      have HRR := hide (show InL y0 count other (k + 1) v5 x5 from by
        obtain ⟨hxo, hRR, hdx⟩ := unhide HQ
        rw [hvx'] at hxo hdx
        refine ⟨fun i => if i = k then .slice px ln cx else v i, ?_, (unhide HXB).grown hg5 (unhide HXB).size (fun q hq => ((unhide HRA).lt q hq).1)⟩
        have hv : ∀ i, i < k → (if i = k then Value.slice px ln cx else v i) = v i := fun i hi => if_neg (by omega)
        have hmap : (List.range k).map (fun i => if i = k then Value.slice px ln cx else v i) = (List.range k).map v := List.map_congr_left (fun i hi => hv i (List.mem_range.1 hi))
        have hRR' : RR y0.heap.size 42 9 (y3.alloc (.cells #[.slice px ln cx] 42)) (.slice pv k cv) k (fun i => if i = k then .slice px ln cx else v i) (fun i => strs (PLz (cz count other i))) := by
          have h0 := hRR.below ((Below.refl _ y3).alloc (Nat.le_refl _) (.cells #[.slice px ln cx] 42))
          refine ⟨by rw [hmap]; exact h0.row, fun i hi => by rw [hv i hi]; exact h0.own i hi, fun i j hi hj hij x hx => by rw [hv j hj]; rw [hv i hi] at hx; exact h0.dis i j hi hj hij x hx⟩
        refine hRR'.push (by decide) (.slice px ln cx) (strs (PLz (cz count other k))) ?_ (fun i hi y hy => by rw [hv i hi] at hy; exact hdx i hi y hy) (if_pos rfl) rfl (by rw [hmap]; exact ho5) hg5
        rw [unhide HZ, strs_len, unhide HLN]
        exact hxo.alloc _)
      clear ho5 hg5 HRA HXB HQ hvx' vx'
      go_wp2
      go_roundw
      case rel => exact ⟨k + 1, by omega, by go_num, unhide HRR⟩
      case measure => simp [intOf]; omega
    · have hke : k = 4 := by omega
      have hkn' : ¬ (k : Int) < 4 := by omega
      subst hke
      obtain ⟨gu, cap, hu, _⟩ := hRR.row.form (by decide)
      injection hu with f1 f2 f3
      subst f1 f3
      have X1 := hide (And.intro hRR hB)
      clear hRR hB hcv f2
      go_wp2
      go_loopw [14, 15, 16, 17] (fun i _ _ _ wr => ∃ k : Nat, k ≤ 4 ∧ i = .int .i64 (k : Int) ∧ RR y0.heap.size 42 9 wr (.slice (some ⟨gu, 0, none⟩) 4 cv) 4 v (fun i => strs (PLz (cz count other i))) ∧ Below y0.heap.size y0 wr) (fun i _ _ _ _ => 4 - (intOf i).toNat)
      case atStart => exact ⟨0, by omega, rfl, (unhide X1).1, (unhide X1).2⟩
      case round =>
      obtain ⟨k, hk, rfl, hRR, hB⟩ := hrel
      obtain ⟨wo, rfl⟩ : ∃ wo, wo = wr := ⟨_, rfl⟩
      clear X1
      by_cases hkn : k < 4
      · have hkn' : (k : Int) < 4 := by omega
        have hk0 : (0 : Int) ≤ (k : Int) := by omega
        have cg : wo.cell? ⟨gc, k, none⟩ = some (.int .i64 (cz count other k)) := by
          rw [hB.cell (p := ⟨gc, k, none⟩) (unhide HCT).2.1]; exact (unhide HCT).1 k hkn
        have hok := hRR.own k hkn
        simp only [strs_len] at hok
        obtain ⟨pk, ck, hvk, hik⟩ := Strs.own hok
        have clk : wo.cell? ⟨gu, k, none⟩ = some (v k) := by
          rw [(own_at hRR.row rfl k hkn).1]; simp [hkn]
        rw [hvk] at clk
        obtain ⟨z, hz⟩ : ∃ z, cz count other k = z := ⟨_, rfl⟩
        rw [hz] at cg clk hik
        have HRI := hide (rinit_all z wo)
        have HX := hide (And.intro hRR (And.intro hB hik))
        have hpl := PLz_len z
        generalize erZ z = er at *
        have hgl : gu < wo.heap.size := World.block_lt_of_cell? wo _ clk
        clear hRR hB hok hvk hz hik
        go_wp2_with fail
        refine (unhide HRI).mono ?_
        rintro e y1 ⟨vw, rfl, hw1, hb1⟩
        have clk1 : y1.cell? ⟨gu, k, none⟩ = some (.slice pk (PLz z).length ck) := by
          rw [hb1.cell (p := ⟨gu, k, none⟩) hgl]; exact clk
        obtain ⟨pw, cw, hvw, hiw⟩ := Strs.own hw1
        subst hvw
        have HST := hide (texts7_any y1 pk pw ck cw (PLz z) (PLz z).length rfl (by omega) ((unhide HX).2.2.below hb1) hiw)
        have HB1 := hide hb1
        clear hw1 hb1 hiw HRI cg clk hgl
        generalize (PLz z).length = ln at *
        go_wp2_with fail
        refine (unhide HST).mono ?_
        rintro e y2 ⟨rfl, hb2⟩
        have HR := hide (show RR y0.heap.size 42 9 y2 (.slice (some ⟨gu, 0, none⟩) 4 cv) 4 v (fun i => strs (PLz (cz count other i))) ∧ Below y0.heap.size y0 y2 from by
          have hb12 := (unhide HB1).trans (hb2.mono (unhide HB1).size)
          exact ⟨(unhide HX).1.below hb12, (unhide HX).2.1.trans (hb12.mono (unhide HX).2.1.size)⟩)
        clear hb2 HST HB1 HX clk1
        go_wp2
        go_roundw
        case rel => exact ⟨k + 1, by omega, by go_num, (unhide HR).1, (unhide HR).2⟩
        case measure => simp [intOf]; omega
      have hke : k = 4 := by omega
      have hkn' : ¬ (k : Int) < 4 := by omega
      have X2 := hide (show ∃ C, RR y0.heap.size 42 9 wo (.slice (some ⟨gu, 0, none⟩) 4 cv) 4 v C ∧ Mk (fun i => (PLz (cz count other i)).length) C 0 0 ∧ Below y0.heap.size y0 wo from ⟨_, hRR, fun k hk => ⟨strs_len _, fun a ha hor => absurd hor (by omega)⟩, hB⟩)
      clear hRR hB hke hkn
      go_wp2
      clear hkn'
      go_loopw [18, 19] (fun i _ wr => ∃ k : Nat, k ≤ 4 ∧ i = .int .i64 (k : Int) ∧ ∃ C, RR y0.heap.size 42 9 wr (.slice (some ⟨gu, 0, none⟩) 4 cv) 4 v C ∧ Mk (fun i => (PLz (cz count other i)).length) C k 0 ∧ Below y0.heap.size y0 wr) (fun i _ _ => 4 - (intOf i).toNat)
      case atStart => exact ⟨0, by omega, rfl, unhide X2⟩
      case round =>
      obtain ⟨k, hk, rfl, hI⟩ := hrel
      obtain ⟨wo, rfl⟩ : ∃ wo, wo = wr := ⟨_, rfl⟩
      clear X2
      have X3 := hide hI
      clear hI
      by_cases hkn : k < 4
      · have hkn' : (k : Int) < 4 := by omega
        have hk0 : (0 : Int) ≤ (k : Int) := by omega
        obtain ⟨NN, hNN⟩ : ∃ r, (PLz (cz count other k)).length = r := ⟨_, rfl⟩
        have hN4 : NN ≤ 4 := by rw [← hNN]; exact PLz_len _
        have HNN := hide hNN
        clear hNN
        go_wp2
        go_loopw [19] (fun jv wr => ∃ j : Nat, j ≤ NN ∧ jv = .int .i64 (j : Int) ∧ ∃ C, RR y0.heap.size 42 9 wr (.slice (some ⟨gu, 0, none⟩) 4 cv) 4 v C ∧ Mk (fun i => (PLz (cz count other i)).length) C k j ∧ Below y0.heap.size y0 wr) (fun jv _ => NN - (intOf jv).toNat)
        case atStart => exact ⟨0, by omega, rfl, unhide X3⟩
        case round =>
        obtain ⟨j, hj, rfl, C, hRR, hMk, hB⟩ := hrel
        obtain ⟨wi, rfl⟩ : ∃ wi, wi = wr := ⟨_, rfl⟩
        clear X3
        have hCk : (C k).length = NN := (hMk k hkn).1.trans (unhide HNN)
        obtain ⟨pk, c', hvk, _⟩ := row_form (hRR.own k hkn)
        rw [hCk] at hvk
        have clk : wi.cell? ⟨gu, k, none⟩ = some (v k) := by
          rw [(own_at hRR.row rfl k hkn).1]; simp [hkn]
        rw [hvk] at clk
        by_cases hjn : j < NN
        · have hjn' : (j : Int) < (NN : Int) := by omega
          have hj0 : (0 : Int) ≤ (j : Int) := by omega
          obtain ⟨g, cap2, hv2, _⟩ := (hRR.own k hkn).form (by omega)
          rw [hvk] at hv2
          injection hv2 with f4 f5 f6
          subst f4 f6
          have hat := own_at (hRR.own k hkn) (show (v k).ownBlock = some g from by rw [hvk]; rfl) j (by omega)
          have fj := hat.2
          obtain ⟨cj, hcj⟩ : ∃ r, (C k)[j]? = some r := ⟨_, List.getElem?_eq_getElem (by omega)⟩
          have cjc : wi.cell? ⟨g, j, none⟩ = some cj := hat.1.trans hcj
          have hgg : gu ≠ g := fun e => own_types (hRR.own k hkn) hRR.row (by decide) g (by rw [hvk]; rfl) (by rw [← e]; rfl)
          have hu8 : IntKind.u8.wrap (k : Int) = (k : Int) := by rw [IntKind.wrap_u8]; omega
          obtain ⟨sk, hsk⟩ : ∃ r, strOfNums [(k : Int)] = r := ⟨_, rfl⟩
          have hcvt := run_convert_bytes_arg (P := Tryz.prog) (wi.alloc (.cells #[.int .u8 (k : Int)] 5)).drew 46 5 Tryz.underlying46 Tryz.underlying5 wi.heap.size 0 1 1 [(k : Int)] rfl (fun a ha => by
            have : a = 0 := by simpa using ha
            subst this
            exact (Blk.new wi 5 #[.int .u8 (k : Int)]).cell 0) 9 Tryz.underlying9
          rw [hsk] at hcvt
          have hs1 : ¬ 9223372036854775807 < 4 + sk.size := by rw [← hsk, strOfNums_size]; show ¬ 9223372036854775807 < 4 + 1; decide
          have HMK := hide (show (⟨#[109, 97, 114, 107]⟩ : ByteArray) ++ sk = mkB k from by rw [← hsk]; rfl)
          obtain ⟨mk, hmk⟩ : ∃ r, (⟨#[109, 97, 114, 107]⟩ : ByteArray) ++ sk = r := ⟨_, rfl⟩
          rw [hmk] at HMK
          clear hsk
          have hba : Below wi.heap.size wi (wi.drew.alloc (.cells #[.int .u8 (k : Int)] 5)) := ((Below.refl _ wi).drew).alloc (Nat.le_refl _) _
          have cla : (wi.drew.alloc (.cells #[.int .u8 (k : Int)] 5)).cell? ⟨gu, k, none⟩ = some (.slice (some ⟨g, 0, none⟩) NN c') := (hba.cell (p := ⟨gu, k, none⟩) (World.block_lt_of_cell? wi _ clk)).trans clk
          have cja : (wi.drew.alloc (.cells #[.int .u8 (k : Int)] 5)).cell? ⟨g, j, none⟩ = some cj := (hba.cell (p := ⟨g, j, none⟩) (World.block_lt_of_cell? wi _ cjc)).trans cjc
          have fja : (wi.drew.alloc (.cells #[.int .u8 (k : Int)] 5)).frozen? ⟨g, j, none⟩ = false := (own_at ((hRR.below hba).own k hkn) (show (v k).ownBlock = some g from by rw [hvk]; rfl) j (by omega)).2
          have hset := hRR.set (by decide) k hkn g c' (by rw [hvk, hCk]) j (.string mk)
          have hbs : Below (wi.setCell ⟨g, j, none⟩ (.string mk)).heap.size (wi.setCell ⟨g, j, none⟩ (.string mk)) (((wi.setCell ⟨g, j, none⟩ (.string mk)).alloc (.cells #[.int .u8 (k : Int)] 5)).drew) := ((Below.refl _ _).alloc (Nat.le_refl _) _).drew
          have cl0 : (wi.setCell ⟨g, j, none⟩ (.string mk)).cell? ⟨gu, k, none⟩ = some (.slice (some ⟨g, 0, none⟩) NN c') := by
            rw [World.cell?_setCell_far _ _ _ _ (Ne.symm hgg)]; exact clk
          have cls : (((wi.setCell ⟨g, j, none⟩ (.string mk)).alloc (.cells #[.int .u8 (k : Int)] 5)).drew).cell? ⟨gu, k, none⟩ = some (.slice (some ⟨g, 0, none⟩) NN c') := by
            exact (hbs.cell (p := ⟨gu, k, none⟩) (World.block_lt_of_cell? _ _ cl0)).trans cl0
          have HRR := hide (show ∃ C, RR y0.heap.size 42 9 (((wi.setCell ⟨g, j, none⟩ (.string mk)).alloc (.cells #[.int .u8 (k : Int)] 5)).drew) (.slice (some ⟨gu, 0, none⟩) 4 cv) 4 v C ∧ Mk (fun i => (PLz (cz count other i)).length) C k (j + 1) ∧ Below y0.heap.size y0 (((wi.setCell ⟨g, j, none⟩ (.string mk)).alloc (.cells #[.int .u8 (k : Int)] 5)).drew) from ⟨_, hset.1.below hbs, by
            have := hMk.step hkn (by show j < (PLz (cz count other k)).length; rw [unhide HNN]; exact hjn)
            rw [← unhide HMK] at this
            exact this, by
              have hb1 := hB.grown hset.2 hB.size (fun r hr => by
                injection hr with hr
                rw [← hr]
                exact ((hRR.own k hkn).lt g (by rw [hvk]; rfl)).1)
              exact hb1.trans (hbs.mono hb1.size)⟩)
          clear hRR hMk hB hCk hvk hat hcj hba hset f5 hbs cl0
          go_wp2_with fail
          refine wp_region_held_drew (S := fun w' => w'.cell? ⟨gu, k, none⟩ = some (.slice (some ⟨g, 0, none⟩) NN c')) (by kernel_rfl) clk ?_
          intro hS
          refine wpAnyH_takeD 0 (some 103) (.slice (some ⟨gu, 0, none⟩) 4 cv) rfl rfl (by kernel_rfl) (by kernel_rfl) (by kernel_rfl) (fun _ _ _ h => h) (Or.inl ⟨by rfl, fun w hSw => by have q1 : _ = _ := hSw; go_simp⟩) hS ?_
          simp only [Act.put, List.setIfInBounds_toArray, List.set_cons_zero, List.set_cons_succ]
          refine wpAnyH_takeD 1 (some 104) (.int .i64 (k : Int)) rfl rfl (by kernel_rfl) (by kernel_rfl) (by kernel_rfl) (fun _ _ _ h => h) (Or.inl ⟨by rfl, fun w hSw => by have q1 : _ = _ := hSw; go_simp⟩) hS ?_
          simp only [Act.put, List.setIfInBounds_toArray, List.set_cons_zero, List.set_cons_succ]
          refine wpAnyH_takeD 2 (some 105) (.pointer (some ⟨gu, k, none⟩)) rfl rfl (by kernel_rfl) (by kernel_rfl) (by kernel_rfl) (fun _ _ _ h => h) (Or.inl ⟨by rfl, fun w hSw => by have q1 : _ = _ := hSw; go_simp⟩) hS ?_
          simp only [Act.put, List.setIfInBounds_toArray, List.set_cons_zero, List.set_cons_succ]
          refine wpAnyH_takeD 3 (some 106) (.slice (some ⟨g, 0, none⟩) NN c') rfl rfl (by kernel_rfl) (by kernel_rfl) (by kernel_rfl) (fun _ _ _ h => h) (Or.inl ⟨by rfl, fun w hSw => by have q1 : _ = _ := hSw; go_simp⟩) hS ?_
          simp only [Act.put, List.setIfInBounds_toArray, List.set_cons_zero, List.set_cons_succ]
          refine wpAnyH_takeD 4 (some 107) (.int .i64 (j : Int)) rfl rfl (by kernel_rfl) (by kernel_rfl) (by kernel_rfl) (fun _ _ _ h => h) (Or.inl ⟨by rfl, fun w hSw => by have q1 : _ = _ := hSw; go_simp⟩) hS ?_
          simp only [Act.put, List.setIfInBounds_toArray, List.set_cons_zero, List.set_cons_succ]
          refine wpAnyH_takeD 5 (some 108) (.int .i64 (k : Int)) rfl rfl (by kernel_rfl) (by kernel_rfl) (by kernel_rfl) (fun _ _ _ h => h) (Or.inl ⟨by rfl, fun w hSw => by have q1 : _ = _ := hSw; go_simp⟩) hS ?_
          simp only [Act.put, List.setIfInBounds_toArray, List.set_cons_zero, List.set_cons_succ]
          refine wpAnyH_takeD 6 (some 109) (.int .u8 (k : Int)) rfl rfl (by kernel_rfl) (by kernel_rfl) (by kernel_rfl) (fun _ _ _ h => h) (Or.inl ⟨by rfl, fun w hSw => by have q1 : _ = _ := hSw; go_simp⟩) hS ?_
          simp only [Act.put, List.setIfInBounds_toArray, List.set_cons_zero, List.set_cons_succ]
          refine wpAnyH_ready (rs := [7]) (by kernel_rfl) (by simp) ?_
          refine AllReadyH.cons rfl (fun K hK => ?_) AllReadyH.nil
          simp only [List.getElem_toArray, List.getElem_cons_succ, List.getElem_cons_zero]
          go_simp
          refine hK.out _ _ cla (fun hS => ?_)
          clear hK K
          refine wpAnyH_ready (rs := [8]) (by kernel_rfl) (by simp) ?_
          refine AllReadyH.cons rfl (fun K hK => ?_) AllReadyH.nil
          simp only [List.getElem_toArray, List.getElem_cons_succ, List.getElem_cons_zero]
          go_simp
          refine hK.out _ _ cla (fun hS => ?_)
          clear hK K
          refine wpAnyH_takeD 9 (some 112) (.string mk) rfl rfl (by kernel_rfl) (by kernel_rfl) (by kernel_rfl) (fun _ _ _ h => h) (Or.inl ⟨by rfl, fun w hSw => by have q1 : _ = _ := hSw; go_simp⟩) hS ?_
          simp only [Act.put, List.setIfInBounds_toArray, List.set_cons_zero, List.set_cons_succ]
          refine wpAnyH_takeD 10 (some 113) (.pointer (some ⟨g, j, none⟩)) rfl rfl (by kernel_rfl) (by kernel_rfl) (by kernel_rfl) (fun _ _ _ h => h) (Or.inl ⟨by rfl, fun w hSw => by have q1 : _ = _ := hSw; go_simp⟩) hS ?_
          simp only [Act.put, List.setIfInBounds_toArray, List.set_cons_zero, List.set_cons_succ]
          refine wpAnyH_ready (rs := [11]) (by kernel_rfl) (by simp) ?_
          refine AllReadyH.cons rfl (fun K hK => ?_) AllReadyH.nil
          simp only [List.getElem_toArray, List.getElem_cons_succ, List.getElem_cons_zero]
          go_simp
          refine hK.out _ _ cls (fun hS => ?_)
          clear hK K
          refine wpAnyH_done (by kernel_rfl) ?_ _
          clear hS clk cla cls cja fja hcvt cjc fj
          go_wp2
          go_roundw
          case rel => exact ⟨j + 1, by omega, by go_num, unhide HRR⟩
          case measure => simp [intOf]; omega
        have hjn' : ¬ (j : Int) < (NN : Int) := by omega
        have HRR := hide (show ∃ C, RR y0.heap.size 42 9 wi (.slice (some ⟨gu, 0, none⟩) 4 cv) 4 v C ∧ Mk (fun i => (PLz (cz count other i)).length) C (k + 1) 0 ∧ Below y0.heap.size y0 wi from ⟨C, hRR, Mk.next (by show Mk _ C k (PLz (cz count other k)).length; rw [unhide HNN, show NN = j by omega]; exact hMk), hB⟩)
        clear hRR hMk hB hCk hvk
        go_wp2
        go_roundw
        case rel => exact ⟨k + 1, by omega, by go_num, unhide HRR⟩
        case measure => simp [intOf]; omega
      have hkn' : ¬ (k : Int) < 4 := by omega
      have hke : k = 4 := by omega
      have X4 := hide (show ∃ v C, RR y0.heap.size 42 9 wo (.slice (some ⟨gu, 0, none⟩) 4 cv) 4 v C ∧ Gw (fun i => (PLz (cz count other i)).length) C 0 0 ∧ Below y0.heap.size y0 wo from by
        obtain ⟨C, c1, c2, c3⟩ := unhide X3
        rw [hke] at c2
        exact ⟨v, C, c1, Gw.start c2, c3⟩)
      clear hke hkn X3
      go_wp2
      clear hkn'
      go_loopw [20, 21] (fun i _ wr => ∃ k : Nat, k ≤ 4 ∧ i = .int .i64 (k : Int) ∧ ∃ v C, RR y0.heap.size 42 9 wr (.slice (some ⟨gu, 0, none⟩) 4 cv) 4 v C ∧ Gw (fun i => (PLz (cz count other i)).length) C k 0 ∧ Below y0.heap.size y0 wr) (fun i _ _ => 4 - (intOf i).toNat)
      case atStart => exact ⟨0, by omega, rfl, unhide X4⟩
      case round =>
      obtain ⟨k, hk, rfl, hI⟩ := hrel
      obtain ⟨wo, rfl⟩ : ∃ wo, wo = wr := ⟨_, rfl⟩
      clear X4
      have X5 := hide hI
      clear hI
      by_cases hkn : k < 4
      · have hkn' : (k : Int) < 4 := by omega
        have hk0 : (0 : Int) ≤ (k : Int) := by omega
        obtain ⟨NN, hNN⟩ : ∃ r, (PLz (cz count other k)).length = r := ⟨_, rfl⟩
        have hN4 : NN ≤ 4 := by rw [← hNN]; exact PLz_len _
        have HNN := hide hNN
        clear hNN
        go_wp2
        go_loopw [21] (fun jv wr => ∃ j : Nat, j ≤ 64 ∧ jv = .int .i64 (j : Int) ∧ ∃ v C, RR y0.heap.size 42 9 wr (.slice (some ⟨gu, 0, none⟩) 4 cv) 4 v C ∧ Gw (fun i => (PLz (cz count other i)).length) C k j ∧ Below y0.heap.size y0 wr) (fun jv _ => 64 - (intOf jv).toNat)
        case atStart => exact ⟨0, by omega, rfl, unhide X5⟩
        case round =>
        obtain ⟨j, hj, rfl, v', C, hRR, hGw, hB⟩ := hrel
        obtain ⟨wi, rfl⟩ : ∃ wi, wi = wr := ⟨_, rfl⟩
        clear X5
        by_cases hjn : j < 64
        · have hjn' : (j : Int) < 64 := by omega
          have hCk : (C k).length = NN + j := by
            have := (hGw k hkn).1
            rw [if_neg (by omega), if_pos rfl] at this
            rw [← unhide HNN]; exact this
          obtain ⟨pk, c', hvk, _⟩ := row_form (hRR.own k hkn)
          have clk : wi.cell? ⟨gu, k, none⟩ = some (v' k) := by
            rw [(own_at hRR.row rfl k hkn).1]; simp [hkn]
          rw [hvk, hCk] at clk
          obtain ⟨ln, hln⟩ : ∃ r, NN + j = r := ⟨_, rfl⟩
          rw [hln] at clk hCk
          have hl100 : ln ≤ 100 := by omega
          have hu8 : IntKind.u8.wrap (k : Int) = (k : Int) := by rw [IntKind.wrap_u8]; omega
          obtain ⟨sk, hsk⟩ : ∃ r, strOfNums [(k : Int)] = r := ⟨_, rfl⟩
          have hcvt := run_convert_bytes_arg (P := Tryz.prog) (wi.alloc (.cells #[.int .u8 (k : Int)] 5)).drew 46 5 Tryz.underlying46 Tryz.underlying5 wi.heap.size 0 1 1 [(k : Int)] rfl (fun a ha => by
            have : a = 0 := by simpa using ha
            subst this
            exact (Blk.new wi 5 #[.int .u8 (k : Int)]).cell 0) 9 Tryz.underlying9
          rw [hsk] at hcvt
          have hs1 : ¬ 9223372036854775807 < 4 + sk.size := by rw [← hsk, strOfNums_size]; show ¬ 9223372036854775807 < 4 + 1; decide
          have HMK := hide (show (⟨#[109, 97, 114, 107]⟩ : ByteArray) ++ sk = mkB k from by rw [← hsk]; rfl)
          obtain ⟨mk, hmk⟩ : ∃ r, (⟨#[109, 97, 114, 107]⟩ : ByteArray) ++ sk = r := ⟨_, rfl⟩
          rw [hmk] at HMK
          clear hsk
          have HBA := hide (show Below wi.heap.size wi (((wi.alloc (.cells #[.int .u8 (k : Int)] 5)).alloc (.cells #[.string mk] 9)).drew) from ((((Below.refl _ wi).alloc (Nat.le_refl _) _).alloc (by simp) _)).drew)
          have hRR2 := hRR.below (unhide HBA)
          have hB2 := hB.trans ((unhide HBA).mono hB.size)
          have hown := hRR2.own k hkn
          rw [hvk, hCk] at hown
          have HOW := hide hown
          have hnews : ∀ a u, [Value.string mk][a]? = some u → (((wi.alloc (.cells #[.int .u8 (k : Int)] 5)).alloc (.cells #[.string mk] 9)).drew).cell? (Addr.add ⟨wi.heap.size + 1, 0, none⟩ a) = some u := fun a u hu => by
            have := news_one (wi.alloc (.cells #[.int .u8 (k : Int)] 5)) 9 (.string mk) a u hu
            rw [show (wi.alloc (.cells #[.int .u8 (k : Int)] 5)).heap.size = wi.heap.size + 1 from by simp] at this
            exact this
          have HNW := hide hnews
          have HGR := hide (show ∀ (g5 cap5 : Nat) (x5 : World), x5.ownsRow y0.heap.size 9 1 (.slice (some ⟨g5, 0, none⟩) (ln + 1) cap5) (ln + 1) (C k ++ [.string mk]) → (((wi.alloc (.cells #[.int .u8 (k : Int)] 5)).alloc (.cells #[.string mk] 9)).drew).grownBy x5 (Value.slice pk ln c').ownBlock → ((Value.slice pk ln c').ownBlock = some g5 ∨ g5 = wi.heap.size + 2) → (∃ v C, RR y0.heap.size 42 9 (x5.setCell ⟨gu, k, none⟩ (.slice (some ⟨g5, 0, none⟩) (ln + 1) cap5)) (.slice (some ⟨gu, 0, none⟩) 4 cv) 4 v C ∧ Gw (fun i => (PLz (cz count other i)).length) C k (j + 1) ∧ Below y0.heap.size y0 (x5.setCell ⟨gu, k, none⟩ (.slice (some ⟨g5, 0, none⟩) (ln + 1) cap5))) ∧ x5.cell? ⟨gu, k, none⟩ = some (.slice pk ln c') ∧ x5.frozen? ⟨gu, k, none⟩ = false from by
            intro g5 cap5 x5 ho5 hg5 hgg
            have hvk' : v' k = .slice pk ln c' := by rw [hvk, hCk]
            have hbl : (v' k).ownBlock = (Value.slice pk ln c').ownBlock := by rw [hvk']
            have hDl : (C k ++ [Value.string mk]).length = ln + 1 := by rw [List.length_append, hCk]; rfl
            have hgr := hRR2.grow (by decide) k hkn gu cv rfl (C k ++ [.string mk]) g5 cap5 (by rw [hDl]; exact ho5) (by rw [hbl]; exact hg5) (by
              rw [hbl]
              rcases hgg with r | r
              · exact .inl r
              · exact .inr (by rw [r]; simp))
            rw [hDl] at hgr
            have hrow : x5.ownsRow y0.heap.size 42 1 (.slice (some ⟨gu, 0, none⟩) 4 cv) 4 ((List.range 4).map v') := hRR2.row.kept hg5 (.inr (fun e => own_types (hRR2.own k hkn) hRR2.row (by decide) gu (by rw [hbl, ← e]; rfl) rfl))
            have hat := own_at hrow rfl k hkn
            refine ⟨⟨_, _, hgr, ?_, ?_⟩, ?_, hat.2⟩
            · have := hGw.step hkn
              rw [← unhide HMK] at this
              exact this
            · have hb5 := hB2.grown hg5 hB2.size (fun r hr => (hown.lt r hr).1)
              exact hb5.setCell (hRR2.row.lt gu rfl).1 _
            · rw [hat.1, ← hvk']; simp [hkn])
          have HBS := hide hB2.size
          have cA1 : (wi.alloc (.cells #[.int .u8 (k : Int)] 5)).cell? ⟨gu, k, none⟩ = some (.slice pk ln c') := (((Below.refl wi.heap.size wi).alloc (Nat.le_refl _) (.cells #[.int .u8 (k : Int)] 5)).cell (p := ⟨gu, k, none⟩) (World.block_lt_of_cell? wi _ clk)).trans clk
          have cA2 : ((wi.alloc (.cells #[.int .u8 (k : Int)] 5)).alloc (.cells #[.string mk] 9)).cell? ⟨gu, k, none⟩ = some (.slice pk ln c') := ((((Below.refl wi.heap.size wi).alloc (Nat.le_refl _) (.cells #[.int .u8 (k : Int)] 5)).alloc (by simp) (.cells #[.string mk] 9)).cell (p := ⟨gu, k, none⟩) (World.block_lt_of_cell? wi _ clk)).trans clk
          clear hRR hGw hB hCk hvk hRR2 hB2 hown hnews hln
          obtain ⟨j0, hji, hjz0, hjz1, hjz2⟩ := info_parts infoS
          have HJN := hide (And.intro hji (And.intro hjz0 (And.intro hjz1 hjz2)))
          clear hji hjz0 hjz1 hjz2
          go_wp2_with fail
          refine wp_region_held_drew (S := fun _ => True) (by kernel_rfl) trivial ?_
          intro hS
          refine wpAnyH_takeD 0 (some 124) (.slice (some ⟨gu, 0, none⟩) 4 cv) rfl rfl (by kernel_rfl) (by kernel_rfl) (by kernel_rfl) (fun _ _ _ h => h) (Or.inl ⟨by rfl, fun w hSw => by go_simp⟩) hS ?_
          simp only [Act.put, List.setIfInBounds_toArray, List.set_cons_zero, List.set_cons_succ]
          refine wpAnyH_takeD 1 (some 125) (.int .i64 (k : Int)) rfl rfl (by kernel_rfl) (by kernel_rfl) (by kernel_rfl) (fun _ _ _ h => h) (Or.inl ⟨by rfl, fun w hSw => by go_simp⟩) hS ?_
          simp only [Act.put, List.setIfInBounds_toArray, List.set_cons_zero, List.set_cons_succ]
          refine wpAnyH_takeD 2 (some 126) (.slice (some ⟨gu, 0, none⟩) 4 cv) rfl rfl (by kernel_rfl) (by kernel_rfl) (by kernel_rfl) (fun _ _ _ h => h) (Or.inl ⟨by rfl, fun w hSw => by go_simp⟩) hS ?_
          simp only [Act.put, List.setIfInBounds_toArray, List.set_cons_zero, List.set_cons_succ]
          refine wpAnyH_takeD 3 (some 127) (.int .i64 (k : Int)) rfl rfl (by kernel_rfl) (by kernel_rfl) (by kernel_rfl) (fun _ _ _ h => h) (Or.inl ⟨by rfl, fun w hSw => by go_simp⟩) hS ?_
          simp only [Act.put, List.setIfInBounds_toArray, List.set_cons_zero, List.set_cons_succ]
          refine wpAnyH_takeD 4 (some 128) (.pointer (some ⟨gu, k, none⟩)) rfl rfl (by kernel_rfl) (by kernel_rfl) (by kernel_rfl) (fun _ _ _ h => h) (Or.inl ⟨by rfl, fun w hSw => by go_simp⟩) hS ?_
          simp only [Act.put, List.setIfInBounds_toArray, List.set_cons_zero, List.set_cons_succ]
          refine wpAnyH_takeD 6 (some 130) (.int .i64 (k : Int)) rfl rfl (by kernel_rfl) (by kernel_rfl) (by kernel_rfl) (fun _ _ _ h => h) (Or.inl ⟨by rfl, fun w hSw => by go_simp⟩) hS ?_
          simp only [Act.put, List.setIfInBounds_toArray, List.set_cons_zero, List.set_cons_succ]
          refine wpAnyH_takeD 7 (some 131) (.int .u8 (k : Int)) rfl rfl (by kernel_rfl) (by kernel_rfl) (by kernel_rfl) (fun _ _ _ h => h) (Or.inl ⟨by rfl, fun w hSw => by go_simp⟩) hS ?_
          simp only [Act.put, List.setIfInBounds_toArray, List.set_cons_zero, List.set_cons_succ]
          refine wpAnyH_ready (rs := [5, 8]) (by kernel_rfl) (by simp) ?_
          refine AllReadyH.cons rfl (fun K hK => ?_) (AllReadyH.cons rfl (fun K hK => ?_) AllReadyH.nil)
          · simp only [List.getElem_toArray, List.getElem_cons_succ, List.getElem_cons_zero]
            go_simp
            refine hK.out _ _ trivial (fun hS => ?_)
            clear hK K
            refine wpAnyH_ready (rs := [8]) (by kernel_rfl) (by simp) ?_
            refine AllReadyH.cons rfl (fun K hK => ?_) AllReadyH.nil
            simp only [List.getElem_toArray, List.getElem_cons_succ, List.getElem_cons_zero]
            go_simp
            refine hK.out _ _ trivial (fun hS => ?_)
            clear hK K
            refine wpAnyH_ready (rs := [9]) (by kernel_rfl) (by simp) ?_
            refine AllReadyH.cons rfl (fun K hK => ?_) AllReadyH.nil
            simp only [List.getElem_toArray, List.getElem_cons_succ, List.getElem_cons_zero]
            go_simp
            refine hK.out _ _ trivial (fun hS => ?_)
            clear hK K
            refine wpAnyH_takeD 10 (some 134) (.string mk) rfl rfl (by kernel_rfl) (by kernel_rfl) (by kernel_rfl) (fun _ _ _ h => h) (Or.inl ⟨by rfl, fun w hSw => by go_simp⟩) hS ?_
            simp only [Act.put, List.setIfInBounds_toArray, List.set_cons_zero, List.set_cons_succ]
            refine wpAnyH_ready (rs := [11]) (by kernel_rfl) (by simp) ?_
            refine AllReadyH.cons rfl (fun K hK => ?_) AllReadyH.nil
            simp only [List.getElem_toArray, List.getElem_cons_succ, List.getElem_cons_zero]
            go_simp
            refine hK.out _ _ trivial (fun hS => ?_)
            clear hK K
            refine wpAnyH_ready (rs := [12]) (by kernel_rfl) (by simp) ?_
            refine AllReadyH.cons rfl (fun Kk hKk => ?_) AllReadyH.nil
            simp only [List.getElem_toArray, List.getElem_cons_succ, List.getElem_cons_zero]
            rw [if_pos (by rfl)]
            refine wp_append_lies _ (.tmp 129) (.tmp 135) 42 rfl y0.heap.size 9 j0 (.string ⟨#[]⟩) 1 16 Tryz.underlying42 (unhide HJN).1 (unhide HJN).2.1 (unhide HJN).2.2.1 (unhide HJN).2.2.2 rfl (by decide) _ ln (C k) rfl (unhide HOW) ⟨wi.heap.size + 1, 0, none⟩ 1 1 [.string mk] rfl rfl (unhide HNW) (by simp [Value.oneCell']) (by decide) (by unfold maxLen; omega) (by omega) (unhide HBS) (wi.heap.size + 2) (by simp) ?_
            intro g5 cap5 x5 ho5 hg5 hgg hgl5
            obtain ⟨hnew, cl5, fl5⟩ := unhide HGR g5 cap5 x5 ho5 hg5 hgg
            have HRR := hide hnew
            simp only [Act.put, List.setIfInBounds_toArray, List.set_cons_zero, List.set_cons_succ]
            refine hKk.out _ _ trivial (fun hS => ?_)
            clear hKk Kk ho5 hg5 hgg hgl5 hnew
            refine wpAnyH_takeD 13 (some 137) (.pointer (some ⟨gu, k, none⟩)) rfl rfl (by kernel_rfl) (by kernel_rfl) (by kernel_rfl) (fun _ _ _ h => h) (Or.inl ⟨by rfl, fun w hSw => by go_simp⟩) hS ?_
            simp only [Act.put, List.setIfInBounds_toArray, List.set_cons_zero, List.set_cons_succ]
            refine wpAnyH_ready (rs := [14]) (by kernel_rfl) (by simp) ?_
            refine AllReadyH.cons rfl (fun K hK => ?_) AllReadyH.nil
            simp only [List.getElem_toArray, List.getElem_cons_succ, List.getElem_cons_zero]
            go_simp
            refine hK.out _ _ trivial (fun hS => ?_)
            clear hK K
            refine wpAnyH_done (by kernel_rfl) ?_ _
            clear hS clk cl5 fl5 hcvt cA1 cA2
            go_wp2
            go_roundw
            case rel => exact ⟨j + 1, by omega, by go_num, unhide HRR⟩
            case measure => simp [intOf]; omega
          · simp only [List.getElem_toArray, List.getElem_cons_succ, List.getElem_cons_zero]
            go_simp
            refine hK.out _ _ trivial (fun hS => ?_)
            clear hK K
            refine wpAnyH_ready (rs := [5, 9]) (by kernel_rfl) (by simp) ?_
            refine AllReadyH.cons rfl (fun K hK => ?_) (AllReadyH.cons rfl (fun K hK => ?_) AllReadyH.nil)
            · simp only [List.getElem_toArray, List.getElem_cons_succ, List.getElem_cons_zero]
              go_simp
              refine hK.out _ _ trivial (fun hS => ?_)
              clear hK K
              refine wpAnyH_ready (rs := [9]) (by kernel_rfl) (by simp) ?_
              refine AllReadyH.cons rfl (fun K hK => ?_) AllReadyH.nil
              simp only [List.getElem_toArray, List.getElem_cons_succ, List.getElem_cons_zero]
              go_simp
              refine hK.out _ _ trivial (fun hS => ?_)
              clear hK K
              refine wpAnyH_takeD 10 (some 134) (.string mk) rfl rfl (by kernel_rfl) (by kernel_rfl) (by kernel_rfl) (fun _ _ _ h => h) (Or.inl ⟨by rfl, fun w hSw => by go_simp⟩) hS ?_
              simp only [Act.put, List.setIfInBounds_toArray, List.set_cons_zero, List.set_cons_succ]
              refine wpAnyH_ready (rs := [11]) (by kernel_rfl) (by simp) ?_
              refine AllReadyH.cons rfl (fun K hK => ?_) AllReadyH.nil
              simp only [List.getElem_toArray, List.getElem_cons_succ, List.getElem_cons_zero]
              go_simp
              refine hK.out _ _ trivial (fun hS => ?_)
              clear hK K
              refine wpAnyH_ready (rs := [12]) (by kernel_rfl) (by simp) ?_
              refine AllReadyH.cons rfl (fun Kk hKk => ?_) AllReadyH.nil
              simp only [List.getElem_toArray, List.getElem_cons_succ, List.getElem_cons_zero]
              rw [if_pos (by rfl)]
              refine wp_append_lies _ (.tmp 129) (.tmp 135) 42 rfl y0.heap.size 9 j0 (.string ⟨#[]⟩) 1 16 Tryz.underlying42 (unhide HJN).1 (unhide HJN).2.1 (unhide HJN).2.2.1 (unhide HJN).2.2.2 rfl (by decide) _ ln (C k) rfl (unhide HOW) ⟨wi.heap.size + 1, 0, none⟩ 1 1 [.string mk] rfl rfl (unhide HNW) (by simp [Value.oneCell']) (by decide) (by unfold maxLen; omega) (by omega) (unhide HBS) (wi.heap.size + 2) (by simp) ?_
              intro g5 cap5 x5 ho5 hg5 hgg hgl5
              obtain ⟨hnew, cl5, fl5⟩ := unhide HGR g5 cap5 x5 ho5 hg5 hgg
              have HRR := hide hnew
              simp only [Act.put, List.setIfInBounds_toArray, List.set_cons_zero, List.set_cons_succ]
              refine hKk.out _ _ trivial (fun hS => ?_)
              clear hKk Kk ho5 hg5 hgg hgl5 hnew
              refine wpAnyH_takeD 13 (some 137) (.pointer (some ⟨gu, k, none⟩)) rfl rfl (by kernel_rfl) (by kernel_rfl) (by kernel_rfl) (fun _ _ _ h => h) (Or.inl ⟨by rfl, fun w hSw => by go_simp⟩) hS ?_
              simp only [Act.put, List.setIfInBounds_toArray, List.set_cons_zero, List.set_cons_succ]
              refine wpAnyH_ready (rs := [14]) (by kernel_rfl) (by simp) ?_
              refine AllReadyH.cons rfl (fun K hK => ?_) AllReadyH.nil
              simp only [List.getElem_toArray, List.getElem_cons_succ, List.getElem_cons_zero]
              go_simp
              refine hK.out _ _ trivial (fun hS => ?_)
              clear hK K
              refine wpAnyH_done (by kernel_rfl) ?_ _
              clear hS clk cl5 fl5 hcvt cA1 cA2
              go_wp2
              go_roundw
              case rel => exact ⟨j + 1, by omega, by go_num, unhide HRR⟩
              case measure => simp [intOf]; omega
            · simp only [List.getElem_toArray, List.getElem_cons_succ, List.getElem_cons_zero]
              go_simp
              refine hK.out _ _ trivial (fun hS => ?_)
              clear hK K
              refine wpAnyH_takeD 10 (some 134) (.string mk) rfl rfl (by kernel_rfl) (by kernel_rfl) (by kernel_rfl) (fun _ _ _ h => h) (Or.inl ⟨by rfl, fun w hSw => by go_simp⟩) hS ?_
              simp only [Act.put, List.setIfInBounds_toArray, List.set_cons_zero, List.set_cons_succ]
              refine wpAnyH_ready (rs := [5, 11]) (by kernel_rfl) (by simp) ?_
              refine AllReadyH.cons rfl (fun K hK => ?_) (AllReadyH.cons rfl (fun K hK => ?_) AllReadyH.nil)
              · simp only [List.getElem_toArray, List.getElem_cons_succ, List.getElem_cons_zero]
                go_simp
                refine hK.out _ _ trivial (fun hS => ?_)
                clear hK K
                refine wpAnyH_ready (rs := [11]) (by kernel_rfl) (by simp) ?_
                refine AllReadyH.cons rfl (fun K hK => ?_) AllReadyH.nil
                simp only [List.getElem_toArray, List.getElem_cons_succ, List.getElem_cons_zero]
                go_simp
                refine hK.out _ _ trivial (fun hS => ?_)
                clear hK K
                refine wpAnyH_ready (rs := [12]) (by kernel_rfl) (by simp) ?_
                refine AllReadyH.cons rfl (fun Kk hKk => ?_) AllReadyH.nil
                simp only [List.getElem_toArray, List.getElem_cons_succ, List.getElem_cons_zero]
                rw [if_pos (by rfl)]
                refine wp_append_lies _ (.tmp 129) (.tmp 135) 42 rfl y0.heap.size 9 j0 (.string ⟨#[]⟩) 1 16 Tryz.underlying42 (unhide HJN).1 (unhide HJN).2.1 (unhide HJN).2.2.1 (unhide HJN).2.2.2 rfl (by decide) _ ln (C k) rfl (unhide HOW) ⟨wi.heap.size + 1, 0, none⟩ 1 1 [.string mk] rfl rfl (unhide HNW) (by simp [Value.oneCell']) (by decide) (by unfold maxLen; omega) (by omega) (unhide HBS) (wi.heap.size + 2) (by simp) ?_
                intro g5 cap5 x5 ho5 hg5 hgg hgl5
                obtain ⟨hnew, cl5, fl5⟩ := unhide HGR g5 cap5 x5 ho5 hg5 hgg
                have HRR := hide hnew
                simp only [Act.put, List.setIfInBounds_toArray, List.set_cons_zero, List.set_cons_succ]
                refine hKk.out _ _ trivial (fun hS => ?_)
                clear hKk Kk ho5 hg5 hgg hgl5 hnew
                refine wpAnyH_takeD 13 (some 137) (.pointer (some ⟨gu, k, none⟩)) rfl rfl (by kernel_rfl) (by kernel_rfl) (by kernel_rfl) (fun _ _ _ h => h) (Or.inl ⟨by rfl, fun w hSw => by go_simp⟩) hS ?_
                simp only [Act.put, List.setIfInBounds_toArray, List.set_cons_zero, List.set_cons_succ]
                refine wpAnyH_ready (rs := [14]) (by kernel_rfl) (by simp) ?_
                refine AllReadyH.cons rfl (fun K hK => ?_) AllReadyH.nil
                simp only [List.getElem_toArray, List.getElem_cons_succ, List.getElem_cons_zero]
                go_simp
                refine hK.out _ _ trivial (fun hS => ?_)
                clear hK K
                refine wpAnyH_done (by kernel_rfl) ?_ _
                clear hS clk cl5 fl5 hcvt cA1 cA2
                go_wp2
                go_roundw
                case rel => exact ⟨j + 1, by omega, by go_num, unhide HRR⟩
                case measure => simp [intOf]; omega
              · simp only [List.getElem_toArray, List.getElem_cons_succ, List.getElem_cons_zero]
                go_simp
                refine hK.out _ _ trivial (fun hS => ?_)
                clear hK K
                refine wpAnyH_ready (rs := [5]) (by kernel_rfl) (by simp) ?_
                refine AllReadyH.cons rfl (fun K hK => ?_) AllReadyH.nil
                simp only [List.getElem_toArray, List.getElem_cons_succ, List.getElem_cons_zero]
                go_simp
                refine hK.out _ _ trivial (fun hS => ?_)
                clear hK K
                refine wpAnyH_ready (rs := [12]) (by kernel_rfl) (by simp) ?_
                refine AllReadyH.cons rfl (fun Kk hKk => ?_) AllReadyH.nil
                simp only [List.getElem_toArray, List.getElem_cons_succ, List.getElem_cons_zero]
                rw [if_pos (by rfl)]
                refine wp_append_lies _ (.tmp 129) (.tmp 135) 42 rfl y0.heap.size 9 j0 (.string ⟨#[]⟩) 1 16 Tryz.underlying42 (unhide HJN).1 (unhide HJN).2.1 (unhide HJN).2.2.1 (unhide HJN).2.2.2 rfl (by decide) _ ln (C k) rfl (unhide HOW) ⟨wi.heap.size + 1, 0, none⟩ 1 1 [.string mk] rfl rfl (unhide HNW) (by simp [Value.oneCell']) (by decide) (by unfold maxLen; omega) (by omega) (unhide HBS) (wi.heap.size + 2) (by simp) ?_
                intro g5 cap5 x5 ho5 hg5 hgg hgl5
                obtain ⟨hnew, cl5, fl5⟩ := unhide HGR g5 cap5 x5 ho5 hg5 hgg
                have HRR := hide hnew
                simp only [Act.put, List.setIfInBounds_toArray, List.set_cons_zero, List.set_cons_succ]
                refine hKk.out _ _ trivial (fun hS => ?_)
                clear hKk Kk ho5 hg5 hgg hgl5 hnew
                refine wpAnyH_takeD 13 (some 137) (.pointer (some ⟨gu, k, none⟩)) rfl rfl (by kernel_rfl) (by kernel_rfl) (by kernel_rfl) (fun _ _ _ h => h) (Or.inl ⟨by rfl, fun w hSw => by go_simp⟩) hS ?_
                simp only [Act.put, List.setIfInBounds_toArray, List.set_cons_zero, List.set_cons_succ]
                refine wpAnyH_ready (rs := [14]) (by kernel_rfl) (by simp) ?_
                refine AllReadyH.cons rfl (fun K hK => ?_) AllReadyH.nil
                simp only [List.getElem_toArray, List.getElem_cons_succ, List.getElem_cons_zero]
                go_simp
                refine hK.out _ _ trivial (fun hS => ?_)
                clear hK K
                refine wpAnyH_done (by kernel_rfl) ?_ _
                clear hS clk cl5 fl5 hcvt cA1 cA2
                go_wp2
                go_roundw
                case rel => exact ⟨j + 1, by omega, by go_num, unhide HRR⟩
                case measure => simp [intOf]; omega
        have hjn' : ¬ (j : Int) < 64 := by omega
        have HRR := hide (show ∃ v C, RR y0.heap.size 42 9 wi (.slice (some ⟨gu, 0, none⟩) 4 cv) 4 v C ∧ Gw (fun i => (PLz (cz count other i)).length) C (k + 1) 0 ∧ Below y0.heap.size y0 wi from ⟨v', C, hRR, Gw.next (by rw [show 64 = j by omega]; exact hGw), hB⟩)
        clear hRR hGw hB
        go_wp2
        go_roundw
        case rel => exact ⟨k + 1, by omega, by go_num, unhide HRR⟩
        case measure => simp [intOf]; omega
      have hkn' : ¬ (k : Int) < 4 := by omega
      have hke : k = 4 := by omega
      have X6 := hide (show ∃ v C, RR y0.heap.size 42 9 wo (.slice (some ⟨gu, 0, none⟩) 4 cv) 4 v C ∧ Gw (fun i => (PLz (cz count other i)).length) C 4 0 ∧ Below y0.heap.size y0 wo from by
        obtain ⟨v, C, c1, c2, c3⟩ := unhide X5
        rw [hke] at c2
        exact ⟨v, C, c1, c2, c3⟩)
      clear hke hkn X5
      go_wp2
      clear hkn'
      obtain ⟨vv, CC, hRR0, hGw0, hB0'⟩ := unhide X6
      have HGW := hide hGw0
      have X7 := hide (show RR y0.heap.size 42 9 wo (.slice (some ⟨gu, 0, none⟩) 4 cv) 4 vv CC ∧ Below y0.heap.size y0 wo from ⟨hRR0, hB0'⟩)
      clear hRR0 hGw0 hB0' X6
      go_loopw [22, 23] (fun i _ wr => ∃ k : Nat, k ≤ 4 ∧ i = .int .i64 (k : Int) ∧ RR y0.heap.size 42 9 wr (.slice (some ⟨gu, 0, none⟩) 4 cv) 4 vv CC ∧ Below y0.heap.size y0 wr) (fun i _ _ => 4 - (intOf i).toNat)
      case atStart => exact ⟨0, by omega, rfl, unhide X7⟩
      case round =>
      obtain ⟨k, hk, rfl, hRR, hB⟩ := hrel
      obtain ⟨wo, rfl⟩ : ∃ wo, wo = wr := ⟨_, rfl⟩
      clear X7
      have X8 := hide (And.intro hRR hB)
      by_cases hkn : k < 4
      · have hkn' : (k : Int) < 4 := by omega
        have hk0 : (0 : Int) ≤ (k : Int) := by omega
        obtain ⟨ln, hln⟩ : ∃ r, (CC k).length = r := ⟨_, rfl⟩
        have hl100 : ln ≤ 1000 := by
          have h1 := (unhide HGW k hkn).1
          have h2 := PLz_len (cz count other k)
          rw [if_pos hkn] at h1
          have h3 : (fun i => (PLz (cz count other i)).length) k ≤ 4 := h2
          omega
        have HLN := hide hln
        clear hRR hB hln
        go_wp2
        go_loopw [23] (fun jv wr => ∃ j : Nat, j ≤ ln ∧ jv = .int .i64 (j : Int) ∧ RR y0.heap.size 42 9 wr (.slice (some ⟨gu, 0, none⟩) 4 cv) 4 vv CC ∧ Below y0.heap.size y0 wr) (fun jv _ => ln - (intOf jv).toNat)
        case atStart => exact ⟨0, by omega, rfl, unhide X8⟩
        case round =>
        obtain ⟨j, hj, rfl, hRR, hB⟩ := hrel
        obtain ⟨wi, rfl⟩ : ∃ wi, wi = wr := ⟨_, rfl⟩
        clear X8
        obtain ⟨pk, c', hvk, _⟩ := row_form (hRR.own k hkn)
        have clk : wi.cell? ⟨gu, k, none⟩ = some (vv k) := by
          rw [(own_at hRR.row rfl k hkn).1]; simp [hkn]
        rw [hvk, unhide HLN] at clk
        by_cases hjn : j < ln
        · have hjn' : (j : Int) < (ln : Int) := by omega
          have hj0 : (0 : Int) ≤ (j : Int) := by omega
          obtain ⟨g, cap2, hv2, _⟩ := (hRR.own k hkn).form (by rw [unhide HLN]; omega)
          rw [hvk] at hv2
          injection hv2 with f4 f5 f6
          subst f4 f6
          have hu8 : IntKind.u8.wrap (k : Int) = (k : Int) := by rw [IntKind.wrap_u8]; omega
          obtain ⟨sk, hsk⟩ : ∃ r, strOfNums [(k : Int)] = r := ⟨_, rfl⟩
          have hcvt := run_convert_bytes_arg (P := Tryz.prog) (wi.alloc (.cells #[.int .u8 (k : Int)] 5)).drew 46 5 Tryz.underlying46 Tryz.underlying5 wi.heap.size 0 1 1 [(k : Int)] rfl (fun a ha => by
            have : a = 0 := by simpa using ha
            subst this
            exact (Blk.new wi 5 #[.int .u8 (k : Int)]).cell 0) 9 Tryz.underlying9
          rw [hsk] at hcvt
          have hs1 : ¬ 9223372036854775807 < 4 + sk.size := by rw [← hsk, strOfNums_size]; show ¬ 9223372036854775807 < 4 + 1; decide
          have HMK := hide (show (⟨#[109, 97, 114, 107]⟩ : ByteArray) ++ sk = mkB k from by rw [← hsk]; rfl)
          obtain ⟨mk, hmk⟩ : ∃ r, (⟨#[109, 97, 114, 107]⟩ : ByteArray) ++ sk = r := ⟨_, rfl⟩
          rw [hmk] at HMK
          clear hsk
          have cjc : wi.cell? ⟨g, j, none⟩ = some (.string mk) := by
            rw [(own_at (hRR.own k hkn) (show (vv k).ownBlock = some g from by rw [hvk]; rfl) j (by rw [unhide HLN]; exact hjn)).1, (unhide HGW k hkn).2 j (by rw [unhide HLN]; exact hjn), unhide HMK]
          have hba : Below wi.heap.size wi (wi.drew.alloc (.cells #[.int .u8 (k : Int)] 5)) := ((Below.refl _ wi).drew).alloc (Nat.le_refl _) _
          have cla : (wi.drew.alloc (.cells #[.int .u8 (k : Int)] 5)).cell? ⟨gu, k, none⟩ = some (.slice (some ⟨g, 0, none⟩) ln c') ∧ (wi.drew.alloc (.cells #[.int .u8 (k : Int)] 5)).cell? ⟨g, j, none⟩ = some (.string mk) := ⟨(hba.cell (p := ⟨gu, k, none⟩) (World.block_lt_of_cell? wi _ clk)).trans clk, (hba.cell (p := ⟨g, j, none⟩) (World.block_lt_of_cell? wi _ cjc)).trans cjc⟩
          have HRR := hide (show RR y0.heap.size 42 9 (wi.drew.alloc (.cells #[.int .u8 (k : Int)] 5)) (.slice (some ⟨gu, 0, none⟩) 4 cv) 4 vv CC ∧ Below y0.heap.size y0 (wi.drew.alloc (.cells #[.int .u8 (k : Int)] 5)) from ⟨hRR.below hba, hB.trans (hba.mono hB.size)⟩)
          clear hRR hB hvk hba f5
          go_wp2_with fail
          refine wp_region_held_drew (S := fun w' => w'.cell? ⟨gu, k, none⟩ = some (.slice (some ⟨g, 0, none⟩) ln c') ∧ w'.cell? ⟨g, j, none⟩ = some (.string mk)) (by kernel_rfl) ⟨clk, cjc⟩ ?_
          intro hS
          refine wpAnyH_takeD 0 (some 153) (.slice (some ⟨gu, 0, none⟩) 4 cv) rfl rfl (by kernel_rfl) (by kernel_rfl) (by kernel_rfl) (fun _ _ _ h => h) (Or.inl ⟨by rfl, fun w hSw => by obtain ⟨q1, q2⟩ := hSw; go_simp⟩) hS ?_
          simp only [Act.put, List.setIfInBounds_toArray, List.set_cons_zero, List.set_cons_succ]
          refine wpAnyH_takeD 1 (some 154) (.int .i64 (k : Int)) rfl rfl (by kernel_rfl) (by kernel_rfl) (by kernel_rfl) (fun _ _ _ h => h) (Or.inl ⟨by rfl, fun w hSw => by obtain ⟨q1, q2⟩ := hSw; go_simp⟩) hS ?_
          simp only [Act.put, List.setIfInBounds_toArray, List.set_cons_zero, List.set_cons_succ]
          refine wpAnyH_takeD 2 (some 155) (.pointer (some ⟨gu, k, none⟩)) rfl rfl (by kernel_rfl) (by kernel_rfl) (by kernel_rfl) (fun _ _ _ h => h) (Or.inl ⟨by rfl, fun w hSw => by obtain ⟨q1, q2⟩ := hSw; go_simp⟩) hS ?_
          simp only [Act.put, List.setIfInBounds_toArray, List.set_cons_zero, List.set_cons_succ]
          refine wpAnyH_takeD 3 (some 156) (.slice (some ⟨g, 0, none⟩) ln c') rfl rfl (by kernel_rfl) (by kernel_rfl) (by kernel_rfl) (fun _ _ _ h => h) (Or.inl ⟨by rfl, fun w hSw => by obtain ⟨q1, q2⟩ := hSw; go_simp⟩) hS ?_
          simp only [Act.put, List.setIfInBounds_toArray, List.set_cons_zero, List.set_cons_succ]
          refine wpAnyH_takeD 4 (some 157) (.int .i64 (j : Int)) rfl rfl (by kernel_rfl) (by kernel_rfl) (by kernel_rfl) (fun _ _ _ h => h) (Or.inl ⟨by rfl, fun w hSw => by obtain ⟨q1, q2⟩ := hSw; go_simp⟩) hS ?_
          simp only [Act.put, List.setIfInBounds_toArray, List.set_cons_zero, List.set_cons_succ]
          refine wpAnyH_takeD 5 (some 158) (.pointer (some ⟨g, j, none⟩)) rfl rfl (by kernel_rfl) (by kernel_rfl) (by kernel_rfl) (fun _ _ _ h => h) (Or.inl ⟨by rfl, fun w hSw => by obtain ⟨q1, q2⟩ := hSw; go_simp⟩) hS ?_
          simp only [Act.put, List.setIfInBounds_toArray, List.set_cons_zero, List.set_cons_succ]
          refine wpAnyH_takeD 6 (some 159) (.string mk) rfl rfl (by kernel_rfl) (by kernel_rfl) (by kernel_rfl) (fun _ _ _ h => h) (Or.inl ⟨by rfl, fun w hSw => by obtain ⟨q1, q2⟩ := hSw; go_simp⟩) hS ?_
          simp only [Act.put, List.setIfInBounds_toArray, List.set_cons_zero, List.set_cons_succ]
          refine wpAnyH_takeD 7 (some 160) (.int .i64 (k : Int)) rfl rfl (by kernel_rfl) (by kernel_rfl) (by kernel_rfl) (fun _ _ _ h => h) (Or.inl ⟨by rfl, fun w hSw => by obtain ⟨q1, q2⟩ := hSw; go_simp⟩) hS ?_
          simp only [Act.put, List.setIfInBounds_toArray, List.set_cons_zero, List.set_cons_succ]
          refine wpAnyH_takeD 8 (some 161) (.int .u8 (k : Int)) rfl rfl (by kernel_rfl) (by kernel_rfl) (by kernel_rfl) (fun _ _ _ h => h) (Or.inl ⟨by rfl, fun w hSw => by obtain ⟨q1, q2⟩ := hSw; go_simp⟩) hS ?_
          simp only [Act.put, List.setIfInBounds_toArray, List.set_cons_zero, List.set_cons_succ]
          refine wpAnyH_ready (rs := [9]) (by kernel_rfl) (by simp) ?_
          refine AllReadyH.cons rfl (fun K hK => ?_) AllReadyH.nil
          simp only [List.getElem_toArray, List.getElem_cons_succ, List.getElem_cons_zero]
          go_simp
          refine hK.out _ _ cla (fun hS => ?_)
          clear hK K
          refine wpAnyH_ready (rs := [10]) (by kernel_rfl) (by simp) ?_
          refine AllReadyH.cons rfl (fun K hK => ?_) AllReadyH.nil
          simp only [List.getElem_toArray, List.getElem_cons_succ, List.getElem_cons_zero]
          go_simp
          refine hK.out _ _ cla (fun hS => ?_)
          clear hK K
          refine wpAnyH_takeD 11 (some 164) (.string mk) rfl rfl (by kernel_rfl) (by kernel_rfl) (by kernel_rfl) (fun _ _ _ h => h) (Or.inl ⟨by rfl, fun w hSw => by obtain ⟨q1, q2⟩ := hSw; go_simp⟩) hS ?_
          simp only [Act.put, List.setIfInBounds_toArray, List.set_cons_zero, List.set_cons_succ]
          refine wpAnyH_takeD 12 (some 165) (.bool false) rfl rfl (by kernel_rfl) (by kernel_rfl) (by kernel_rfl) (fun _ _ _ h => h) (Or.inl ⟨by rfl, fun w hSw => by obtain ⟨q1, q2⟩ := hSw; go_simp⟩) hS ?_
          simp only [Act.put, List.setIfInBounds_toArray, List.set_cons_zero, List.set_cons_succ]
          refine wpAnyH_done (by kernel_rfl) ?_ _
          clear hS clk cla hcvt cjc
          go_wp2
          go_roundw
          case rel => exact ⟨j + 1, by omega, by go_num, (unhide HRR).1, (unhide HRR).2⟩
          case measure => simp [intOf]; omega
        have hjn' : ¬ (j : Int) < (ln : Int) := by omega
        have HRR := hide (And.intro hRR hB)
        clear hRR hB hvk
        go_wp2
        go_roundw
        case rel => exact ⟨k + 1, by omega, by go_num, (unhide HRR).1, (unhide HRR).2⟩
        case measure => simp [intOf]; omega
      have hkn' : ¬ (k : Int) < 4 := by omega
      have HF := hide ((unhide HCT).2.2.trans (hB.mono (unhide HCT).2.2.size))
      clear hRR hB X8
      go_wp2
      go_ret
      exact ⟨rfl, unhide HF⟩
end Go.Proofs.YtjiigapphhekmaaGreatDoor
