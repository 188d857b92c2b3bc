import Derived.Test.YtifjmldmilmfjaaGreatDoorMp26
import Derived.BigQuiet
namespace Go.Proofs.YtifjmldmilmfjaaGreatDoor
open Go.RowKit
set_option maxRecDepth 100000
/-- a script in memory -/
def OpP (w : World) (B : Nat) (p : Option Addr) (n : Nat) (kf ef nf mf : Nat → Int) (sf : Nat → ByteArray) : Prop := ∀ i, i < n → ∃ g o, p = some ⟨g, o, none⟩ ∧ g < B ∧ w.cell? ⟨g, o + i * 5, none⟩ = some (.int .i64 (kf i)) ∧ w.cell? ⟨g, o + i * 5 + 1, none⟩ = some (.int .i64 (ef i)) ∧ w.cell? ⟨g, o + i * 5 + 2, none⟩ = some (.int .i64 (nf i)) ∧ w.cell? ⟨g, o + i * 5 + 3, none⟩ = some (.int .i64 (mf i)) ∧ w.cell? ⟨g, o + i * 5 + 4, none⟩ = some (.string (sf i))
theorem OpP.below {w w' : World} {B : Nat} {p : Option Addr} {n : Nat} {kf ef nf mf : Nat → Int} {sf : Nat → ByteArray} (h : OpP w B p n kf ef nf mf sf) (hb : Below B w w') : OpP w' B p n kf ef nf mf sf := fun i hi => by
  obtain ⟨g, o, e, hg, h0, h1, h2, h3, h4⟩ := h i hi
  exact ⟨g, o, e, hg, (hb.cell (p := ⟨g, o + i * 5, none⟩) hg).trans h0, (hb.cell (p := ⟨g, o + i * 5 + 1, none⟩) hg).trans h1, (hb.cell (p := ⟨g, o + i * 5 + 2, none⟩) hg).trans h2, (hb.cell (p := ⟨g, o + i * 5 + 3, none⟩) hg).trans h3, (hb.cell (p := ⟨g, o + i * 5 + 4, none⟩) hg).trans h4⟩
theorem gr_pair : (Tryz.prog.info? 71).map (fun i => (i.zero, i.size, i.bytes)) = some (some (.agg #[.pointer none, .pointer none]), 2, 16) := by kernel_rfl
theorem owns_lowK {w : World} {b b' n s : Nat} {e : TypeId} {v : Value} {xs : List Value} (h : w.ownsRow b e s v n xs) (hb : b' ≤ b) : w.ownsRow b' e s v n xs := by
  obtain ⟨h1, h2⟩ := h
  refine ⟨h1, ?_⟩
  rcases h2 with q | ⟨g, cap, cu, q, hg0, hgb, q1, q2, q3, q4⟩
  · exact .inl q
  · exact .inr ⟨g, cap, cu, q, Nat.le_trans hb hg0, hgb, q1, q2, q3, q4⟩
theorem news_pair (w : World) (T : TypeId) (x y : Value) (j : Nat) (u : Value) (hu : [x, y][j]? = some u) : (w.alloc (.cells #[x, y] T)).cell? (Addr.add ⟨w.heap.size, 0, none⟩ j) = some u := by
  rw [Addr.add_mid, Nat.zero_add, (Blk.new w T #[x, y]).cell j, ← hu]
  simp
/-- the ends' row, cell by cell -/
theorem pr_cells {w : World} {B c : Nat} {ge : Nat} {gb db : Nat → Nat} (h : w.ownsRow B 71 2 (.slice (some ⟨ge, 0, none⟩) 4 c) 4 (prV gb db 4)) : ∀ a, a < 4 → w.cell? ⟨ge, a * 2, none⟩ = some (.pointer (some ⟨gb a, 0, none⟩)) ∧ w.cell? ⟨ge, a * 2 + 1, none⟩ = some (.pointer (some ⟨db a, 0, none⟩)) := by
  intro a ha
  rcases h.2 with ⟨h1, _⟩ | ⟨g, cap, cur, h1, _, hg, hn, hc, hs, hx⟩
  · cases h1
  · injection h1 with h1
    injection h1 with h1
    injection h1 with h1
    subst h1
    have hB : Blk w ge cur 71 := hg
    have key : ∀ j, j < 8 → cur[j]? = (prV gb db 4)[j]? := fun j hj => by
      rw [← hx, List.getElem?_take, if_pos (by omega)]
      simp
    constructor
    · rw [hB.cell, key _ (by omega)]
      obtain rfl | rfl | rfl | rfl : a = 0 ∨ a = 1 ∨ a = 2 ∨ a = 3 := by omega
      all_goals rfl
    · rw [hB.cell, key _ (by omega)]
      obtain rfl | rfl | rfl | rfl : a = 0 ∨ a = 1 ∨ a = 2 ∨ a = 3 := by omega
      all_goals rfl
def kk4 (key other : ByteArray) (j : Nat) : ByteArray := if j < 2 then key else other
set_option maxHeartbeats 16000000 in
theorem plays21 (key other : ByteArray) (nl : List ByteArray) (qn cn : Nat) (pn : Option Addr) (hqn : nl.length = qn) (kf ef nf mf : Nat → Int) (sf : Nat → ByteArray) (qs cs : Nat) (ps : Option Addr) (hqs : qs ≤ 4398046511000) (hI : ∀ i, i < qs → I64 (ef i) ∧ I64 (nf i) ∧ I64 (mf i) ∧ (sf i).size ≤ 140737488351232) (w : World) (hSB : SB w w.heap.size pn nl) (hOp : OpP w w.heap.size ps qs kf ef nf mf sf) (hK : KTab w) (hG : ETy w) : Calls Tryz.prog 7 #[.string key, .string other, .slice pn qn cn, .slice ps qs cs] w fun ev w' => ev = .returned (.bool true) ∧ Below w.heap.size w w' := by
  obtain ⟨h, hh⟩ : ∃ h, w.heap.size = h := ⟨_, rfl⟩
  have hvh : 1 < h := by rw [← hh]; exact hK.1
  have hKB : ∀ W, Below h w W → KTab W ∧ ETy W := fun W hW => ⟨hK.below (by rw [← hh] at hW; exact hW) hK.1, hG.below (by rw [← hh] at hW; exact hW) hG.lt⟩
  have HENV := hide (show Env w h from ⟨hKB⟩)
  have HKN := hide (known21 w hK hG)
  rw [hh] at HKN hSB hOp ⊢
  have HSM := hide (And.intro hSB hqn)
  have HOP := hide (show ∀ y, Below h w y → OpP y h ps qs kf ef nf mf sf from fun y hy => hOp.below hy)
  have HII := hide hI
  obtain ⟨i0, hi, hz3, hz1, hz2⟩ := info_parts gr_str
  have HI := hide (And.intro hi (And.intro hz3 (And.intro hz1 hz2)))
  obtain ⟨ip, hip, hpz3, hpz1, hpz2⟩ := info_parts gr_pair
  have HIP := hide (And.intro hip (And.intro hpz3 (And.intro hpz1 hpz2)))
  clear hKB hSB hqn hOp hI hK hG hi hz3 hz1 hz2 hip hpz3 hpz1 hpz2
  go_enter Tryz.func7, Tryz.ntmps7
  go_wp2_with fail
  refine (unhide HKN).mono ?_
  rintro ev y0 ⟨rfl, hb⟩
  obtain ⟨kb, hkb⟩ : ∃ z, y0.heap.size = z := ⟨_, rfl⟩
  have hhk : h ≤ kb := by have := hb.size; omega
  obtain ⟨W1, hW1⟩ : ∃ z, y0.alloc (.cells #[.string key, .string key, .string other, .string other] 9) = z := ⟨_, rfl⟩
  have hs1 : W1.heap.size = kb + 1 := by rw [← hW1, ← hkb]; simp
  have HKY := hide (show ∀ y, Below (kb + 1) W1 y → ∀ j, j < 4 → y.cell? ⟨kb, j, none⟩ = some (.string (kk4 key other j)) from fun y hy j hj => by
    have hB : Blk W1 kb #[.string key, .string key, .string other, .string other] 9 := by rw [← hW1, ← hkb]; exact Blk.new _ _ _
    rw [(hB.below hy (by omega)).cell j]
    obtain rfl | rfl | rfl | rfl : j = 0 ∨ j = 1 ∨ j = 2 ∨ j = 3 := by omega
    all_goals rfl)
  have HMK := hide (show MkP w h (kb + 1) 0 W1 (fun _ => 0) (fun _ => 0) (fun _ => le0 ⟨#[]⟩ 0 ⟨#[]⟩) (.slice none 0 0) ∧ Below (kb + 1) W1 W1 from ⟨⟨by rw [← hW1]; exact hb.alloc (by omega) _, fun a ha => absurd ha (by omega), fun a ha => absurd ha (by omega), fun a ha => absurd ha (by omega), fun a ha => absurd ha (by omega), fun a c _ hc => absurd hc (by omega), World.ownsRow_nil _ _ _ _, by omega, by omega⟩, Below.refl _ _⟩)
  clear hb HKN
  go_wp2
  clear hW1 hs1 hkb
  go_loopw [11, 12] (fun vE iv wr => ∃ (i : Nat) (gb db : Nat → Nat) (E : Nat → LE), i ≤ 4 ∧ iv = .int .i64 (i : Int) ∧ Hid (MkP w h (kb + 1) i wr gb db E vE ∧ Below (kb + 1) W1 wr)) (fun _ iv _ => 4 - (intOf iv).toNat)
  case atStart => exact ⟨0, _, _, _, by omega, rfl, HMK⟩
  case round =>
  clear HMK
  obtain ⟨i, gb, db, E, hi4, rfl, HMK⟩ := hrel
  obtain ⟨wi, rfl⟩ : ∃ z, z = wr := ⟨_, rfl⟩
  by_cases hi : i < 4
  · have e1 : (i : Int) < 4 := by omega
    have HFI := hide (fun W => filled_any (i : Int) 16 (by decide) W)
    rw [show (((16 : Nat)) : Int) = 16 from rfl] at HFI
    have hfz := flB_size (i : Int) 16
    generalize flB (i : Int) 16 = fi at *
    have e2 : (i : Int).tmod 2 = ((i % 2 : Nat) : Int) := by rw [Int.tmod_eq_emod_of_nonneg (by omega)]; omega
    have HSZ := hide (fun s W => sized_any s 32 (by decide) W)
    rw [show (((32 : Nat)) : Int) = 32 from rfl] at HSZ
    have HSN := hide (fun s W => sized_any s 16 (by decide) W)
    rw [show (((16 : Nat)) : Int) = 16 from rfl] at HSN
    go_wp2_with fail
    refine (unhide HFI _).mono ?_
    rintro ev y1 ⟨rfl, hb⟩
    replace HMK := hide (show MkP w h (kb + 1) i y1 gb db E _ ∧ Below (kb + 1) W1 y1 from ⟨(unhide HMK).1.bel' hb, (unhide HMK).2.trans (hb.mono (unhide HMK).1.sz)⟩)
    clear hb HFI
    by_cases hin : i < qn
    · have e3 : (i : Int) < (qn : Int) := by omega
      obtain ⟨gn, on, rfl, hgn, hcn⟩ := (unhide HSM).1.below (unhide HMK).1.bel i (by rw [(unhide HSM).2]; exact hin)
      obtain ⟨ns, hns⟩ : ∃ z, nl.getD i ⟨#[]⟩ = z := ⟨_, rfl⟩
      rw [hns] at hcn
      clear hns
      go_wp2_with fail
      refine (unhide HSN _ _).mono ?_
      rintro ev y2 ⟨rfl, hb⟩
      replace HMK := hide (show MkP w h (kb + 1) i y2 gb db E _ ∧ Below (kb + 1) W1 y2 from ⟨(unhide HMK).1.bel' hb, (unhide HMK).2.trans (hb.mono (unhide HMK).1.sz)⟩)
      clear hb hcn
      obtain ⟨nn, hnn⟩ : ∃ z, szB ns 16 = z := ⟨_, rfl⟩
      have hnz : nn.size = 16 := by rw [← hnn]; exact szB_size _ _
      rw [hnn]
      clear hnn e3 hgn hfz HSN
      have ck2 := unhide HKY y2 (unhide HMK).2 i hi
      obtain ⟨kz, hkz⟩ : ∃ z, szB (kk4 key other i) 32 = z := ⟨_, rfl⟩
      have hkzs : kz.size = 32 := by rw [← hkz]; exact szB_size _ _
      have HNW := hide (fun W => lnew_ok kz (i % 2) nn hkzs (by omega) hnz W)
      have HRN := hide (fun W => rlnew_ok kz (i % 2) nn hkzs (by omega) hnz W)
      go_wp2_with fail
      refine (unhide HSZ _ _).mono ?_
      rintro ev y3 ⟨rfl, hb⟩
      replace HMK := hide (show MkP w h (kb + 1) i y3 gb db E _ ∧ Below (kb + 1) W1 y3 from ⟨(unhide HMK).1.bel' hb, (unhide HMK).2.trans (hb.mono (unhide HMK).1.sz)⟩)
      rw [hkz]
      clear hb ck2
      go_wp2_with fail
      refine (unhide HNW _).mono ?_
      rintro ev y4 ⟨g, hg, rfl, hE, hb⟩
      have HQ4 := hide (And.intro hE (And.intro hg hb))
      have ck4 := unhide HKY y4 ((unhide HMK).2.trans (hb.mono (unhide HMK).1.sz)) i hi
      clear hE hg hb HNW
      go_wp2_with fail
      refine (unhide HSZ _ _).mono ?_
      rintro ev y5 ⟨rfl, hb⟩
      have HQ5 := hide hb
      rw [hkz]
      clear hb ck4 HSZ
      go_wp2_with fail
      refine (unhide HRN _).mono ?_
      rintro ev y6 ⟨d, hd, rfl, hD, hb⟩
      have HQ6 := hide (And.intro hD (And.intro hd hb))
      have HB36 := hide (show Below y3.heap.size y3 y6 from by
        have q1 := (unhide HQ4).2.2
        have q2 := unhide HQ5
        exact q1.trans (q2.trans (hb.mono q2.size) |>.mono q1.size))
      clear hD hd hb HRN
      obtain ⟨pE, cE, rfl, _⟩ := gr_form (unhide HMK).1.er
      have HER := hide ((own_bel (unhide HMK).1.er (unhide HB36)).alloc (.cells #[.pointer (some ⟨g, 0, none⟩), .pointer (some ⟨d, 0, none⟩)] 71))
      have hsz6 : kb + 1 ≤ y6.heap.size := by have := (unhide HB36).size; have := (unhide HMK).1.sz; omega
      go_wp2_with (refine wpList_append_lies _ rfl (.tmp 88) (.tmp 92) 68 rfl (kb + 1) 71 ip (.agg #[.pointer none, .pointer none]) 2 16 Tryz.underlying68 (unhide HIP).1 (unhide HIP).2.1 (unhide HIP).2.2.1 (unhide HIP).2.2.2 rfl (by decide) _ i _ rfl (unhide HER) ⟨y6.heap.size, 0, none⟩ 1 1 [.pointer (some ⟨g, 0, none⟩), .pointer (some ⟨d, 0, none⟩)] rfl rfl (fun q u hu => news_pair y6 _ _ _ q u hu) (by simp [Value.oneCell']) (by decide) (by unfold maxLen; omega) (by omega) (by simp; omega) (y6.heap.size + 1) (by simp) ?_)
      intro g5 c5 x5 ho5 hg5 _ _
      have HNX := hide (show MkP w h (kb + 1) (i + 1) x5 (upT gb i g) (upT db i d) (upT E i (le0 kz (i % 2) nn)) (.slice (some ⟨g5, 0, none⟩) (i + 1) c5) ∧ Below (kb + 1) W1 x5 from by
        obtain ⟨q1, q2, q3⟩ := unhide HQ4
        obtain ⟨r1, r2, r3⟩ := unhide HQ6
        refine ⟨(unhide HMK).1.next g d kz nn q1 q2 q3 (unhide HQ5) r1 r2 r3 ho5 hg5, ?_⟩
        have hb6 := (unhide HMK).2.trans ((unhide HB36).mono (unhide HMK).1.sz)
        exact hb6.trans (((Below.refl _ y6).alloc hsz6 _).grown hg5 (by simp; omega) (fun q hq => ((unhide HMK).1.er.lt q hq).1)))
      clear ho5 hg5 HER HQ4 HQ5 HQ6 HB36 HMK
      go_wp2
      go_roundw
      case rel => exact ⟨i + 1, _, _, _, by omega, by go_num, HNX⟩
      case measure => simp [intOf] <;> omega
    have e3 : ¬ (i : Int) < (qn : Int) := by omega
    obtain ⟨y2, rfl⟩ : ∃ z, z = y1 := ⟨_, rfl⟩
    obtain ⟨nn, rfl⟩ : ∃ z, z = fi := ⟨_, rfl⟩
    have hnz := hfz
    have ck2 := unhide HKY y2 (unhide HMK).2 i hi
    obtain ⟨kz, hkz⟩ : ∃ z, szB (kk4 key other i) 32 = z := ⟨_, rfl⟩
    have hkzs : kz.size = 32 := by rw [← hkz]; exact szB_size _ _
    have HNW := hide (fun W => lnew_ok kz (i % 2) nn hkzs (by omega) hnz W)
    have HRN := hide (fun W => rlnew_ok kz (i % 2) nn hkzs (by omega) hnz W)
    go_wp2_with fail
    refine (unhide HSZ _ _).mono ?_
    rintro ev y3 ⟨rfl, hb⟩
    replace HMK := hide (show MkP w h (kb + 1) i y3 gb db E _ ∧ Below (kb + 1) W1 y3 from ⟨(unhide HMK).1.bel' hb, (unhide HMK).2.trans (hb.mono (unhide HMK).1.sz)⟩)
    rw [hkz]
    clear hb ck2
    go_wp2_with fail
    refine (unhide HNW _).mono ?_
    rintro ev y4 ⟨g, hg, rfl, hE, hb⟩
    have HQ4 := hide (And.intro hE (And.intro hg hb))
    have ck4 := unhide HKY y4 ((unhide HMK).2.trans (hb.mono (unhide HMK).1.sz)) i hi
    clear hE hg hb HNW
    go_wp2_with fail
    refine (unhide HSZ _ _).mono ?_
    rintro ev y5 ⟨rfl, hb⟩
    have HQ5 := hide hb
    rw [hkz]
    clear hb ck4 HSZ
    go_wp2_with fail
    refine (unhide HRN _).mono ?_
    rintro ev y6 ⟨d, hd, rfl, hD, hb⟩
    have HQ6 := hide (And.intro hD (And.intro hd hb))
    have HB36 := hide (show Below y3.heap.size y3 y6 from by
      have q1 := (unhide HQ4).2.2
      have q2 := unhide HQ5
      exact q1.trans (q2.trans (hb.mono q2.size) |>.mono q1.size))
    clear hD hd hb HRN
    obtain ⟨pE, cE, rfl, _⟩ := gr_form (unhide HMK).1.er
    have HER := hide ((own_bel (unhide HMK).1.er (unhide HB36)).alloc (.cells #[.pointer (some ⟨g, 0, none⟩), .pointer (some ⟨d, 0, none⟩)] 71))
    have hsz6 : kb + 1 ≤ y6.heap.size := by have := (unhide HB36).size; have := (unhide HMK).1.sz; omega
    go_wp2_with (refine wpList_append_lies _ rfl (.tmp 88) (.tmp 92) 68 rfl (kb + 1) 71 ip (.agg #[.pointer none, .pointer none]) 2 16 Tryz.underlying68 (unhide HIP).1 (unhide HIP).2.1 (unhide HIP).2.2.1 (unhide HIP).2.2.2 rfl (by decide) _ i _ rfl (unhide HER) ⟨y6.heap.size, 0, none⟩ 1 1 [.pointer (some ⟨g, 0, none⟩), .pointer (some ⟨d, 0, none⟩)] rfl rfl (fun q u hu => news_pair y6 _ _ _ q u hu) (by simp [Value.oneCell']) (by decide) (by unfold maxLen; omega) (by omega) (by simp; omega) (y6.heap.size + 1) (by simp) ?_)
    intro g5 c5 x5 ho5 hg5 _ _
    have HNX := hide (show MkP w h (kb + 1) (i + 1) x5 (upT gb i g) (upT db i d) (upT E i (le0 kz (i % 2) nn)) (.slice (some ⟨g5, 0, none⟩) (i + 1) c5) ∧ Below (kb + 1) W1 x5 from by
      obtain ⟨q1, q2, q3⟩ := unhide HQ4
      obtain ⟨r1, r2, r3⟩ := unhide HQ6
      refine ⟨(unhide HMK).1.next g d kz nn q1 q2 q3 (unhide HQ5) r1 r2 r3 ho5 hg5, ?_⟩
      have hb6 := (unhide HMK).2.trans ((unhide HB36).mono (unhide HMK).1.sz)
      exact hb6.trans (((Below.refl _ y6).alloc hsz6 _).grown hg5 (by simp; omega) (fun q hq => ((unhide HMK).1.er.lt q hq).1)))
    clear ho5 hg5 HER HQ4 HQ5 HQ6 HB36 HMK
    go_wp2
    go_roundw
    case rel => exact ⟨i + 1, _, _, _, by omega, by go_num, HNX⟩
    case measure => simp [intOf] <;> omega
  obtain rfl : i = 4 := by omega
  have e1 : ¬ (((4 : Nat)) : Int) < 4 := by omega
  obtain ⟨F, hF⟩ : ∃ z, wi.heap.size = z := ⟨_, rfl⟩
  have hst := (unhide HMK).1.start
  rw [hF] at hst
  have hers := (unhide HMK).1.er
  obtain ⟨pE, cE, rfl, _⟩ := gr_form hers
  have hpe : ∃ ge, pE = some ⟨ge, 0, none⟩ := by
    rcases hers.2 with ⟨_, h0⟩ | ⟨g, cap, cur, h1, _⟩
    · cases h0
    · injection h1 with h1
      exact ⟨g, h1⟩
  obtain ⟨ge, rfl⟩ := hpe
  have HPS := hide (show PlS w h F gb db 0 wi ∧ wi.ownsRow F 9 1 (.slice none 0 0) 0 (([] : List ByteArray).map Value.string) ∧ (∀ j, j < 0 → (([] : List ByteArray).getD j ⟨#[]⟩).size ≤ 4122) ∧ ([] : List ByteArray).length = 0 ∧ wi.ownsRow (kb + 1) 71 2 (.slice (some ⟨ge, 0, none⟩) 4 cE) 4 (prV gb db 4) from ⟨⟨_, _, _, hst⟩, World.ownsRow_nil _ _ _ _, fun j hj => absurd hj (by omega), rfl, hers⟩)
  have hhF : h ≤ F := hst.hf
  clear hst hers hF HMK HKY HSM
  go_wp2
  go_loopw [18, 19] (fun vf iv wr => ∃ (i n : Nat) (fl : List ByteArray), i ≤ qs ∧ n ≤ i ∧ iv = .int .i64 (i : Int) ∧ Hid (PlS w h F gb db i wr ∧ wr.ownsRow F 9 1 vf n (fl.map Value.string) ∧ (∀ j, j < n → (fl.getD j ⟨#[]⟩).size ≤ 4122) ∧ fl.length = n ∧ wr.ownsRow (kb + 1) 71 2 (.slice (some ⟨ge, 0, none⟩) 4 cE) 4 (prV gb db 4))) (fun _ iv _ => qs - (intOf iv).toNat)
  case atStart => exact ⟨0, 0, [], by omega, by omega, rfl, HPS⟩
  case round =>
  clear HPS
  obtain ⟨i, n, fl, hiq, hni, rfl, HPS⟩ := hrel
  obtain ⟨wi, rfl⟩ : ∃ z, z = wr := ⟨_, rfl⟩
  by_cases hq : i < qs
  · have e1 : (i : Int) < (qs : Int) := by omega
    obtain ⟨E, V, L, x⟩ := (unhide HPS).1
    have hm9 : i ≤ 4398046511103 := by omega
    obtain ⟨gp, op, rfl, hgp, c0, c1, c2, c3, c4⟩ := unhide HOP wi x.bel i hq
    obtain ⟨hed, hN, hM, hSz⟩ := unhide HII i hq
    obtain ⟨kd, hkd⟩ : ∃ z, kf i = z := ⟨_, rfl⟩
    obtain ⟨ed, hedd⟩ : ∃ z, ef i = z := ⟨_, rfl⟩
    obtain ⟨N, hNN⟩ : ∃ z, nf i = z := ⟨_, rfl⟩
    obtain ⟨M, hMM⟩ : ∃ z, mf i = z := ⟨_, rfl⟩
    obtain ⟨S, hSS⟩ : ∃ z, sf i = z := ⟨_, rfl⟩
    rw [hkd] at c0
    rw [hedd] at c1 hed
    rw [hNN] at c2 hN
    rw [hMM] at c3 hM
    rw [hSS] at c4 hSz
    clear hkd hedd hNN hMM hSS
    obtain ⟨bb, hbb⟩ : ∃ z, wi.heap.size = z := ⟨_, rfl⟩
    obtain ⟨W2, hW2⟩ : ∃ z, wi.alloc (.cells #[.int .i64 kd, .int .i64 ed, .int .i64 N, .int .i64 M, .string S] 73) = z := ⟨_, rfl⟩
    have hBb : Blk W2 bb #[.int .i64 kd, .int .i64 ed, .int .i64 N, .int .i64 M, .string S] 73 := by rw [← hW2, ← hbb]; exact Blk.new _ _ _
    have hb2 : Below wi.heap.size wi W2 := by rw [← hW2]; exact (Below.refl _ _).alloc (Nat.le_refl _) _
    have o0 : W2.cell? ⟨bb, 0, none⟩ = some (.int .i64 kd) := hBb.cell 0
    have o1 : W2.cell? ⟨bb, 1, none⟩ = some (.int .i64 ed) := hBb.cell 1
    have o2 : W2.cell? ⟨bb, 2, none⟩ = some (.int .i64 N) := hBb.cell 2
    have o3 : W2.cell? ⟨bb, 3, none⟩ = some (.int .i64 M) := hBb.cell 3
    have o4 : W2.cell? ⟨bb, 4, none⟩ = some (.string S) := hBb.cell 4
    obtain ⟨hp1, hp2, hp3, hp4, hp5⟩ := unhide HPS
    obtain ⟨pf, cf, rfl, _⟩ := gr_form hp2
    have HX2 := hide (show PlI w h F gb db i W2 E V L ∧ W2.ownsRow F 9 1 (.slice pf n cf) n (fl.map Value.string) ∧ W2.ownsRow (kb + 1) 71 2 (.slice (some ⟨ge, 0, none⟩) 4 cE) 4 (prV gb db 4) ∧ Blk W2 bb #[.int .i64 kd, .int .i64 ed, .int .i64 N, .int .i64 M, .string S] 73 from ⟨x.bel' hb2, own_bel hp2 hb2, own_bel hp5 hb2, hBb⟩)
    have HFZ := hide (And.intro hp3 hp4)
    have HP4 := hide (fun W => pick21 ed 4 (by decide) hed W)
    rw [show (((4 : Nat)) : Int) = 4 from rfl] at HP4
    clear hp1 hp2 hp3 hp4 hp5 hBb hb2 x HPS hed
    go_wp2_with fail
    refine (unhide HP4 _).mono ?_
    rintro ev yy ⟨k, hk4, rfl, hy⟩
    subst yy
    clear HP4 c0 c1 c2 c3 c4 hW2 hbb o1
    by_cases k11 : kd = 11
    · subst k11
      obtain ⟨AT, hAT⟩ : ∃ AT : World → Prop, AT = fun y => Below W2.heap.size W2 y := ⟨_, rfl⟩
      have HAT := hide (show AT W2.drew from by rw [hAT]; exact (Below.refl _ _).drew)
      have HC := hide (show ∀ y, AT y → y.cell? ⟨bb, 2, none⟩ = some (.int .i64 N) ∧ y.cell? ⟨bb, 3, none⟩ = some (.int .i64 M) from fun y hy => by
        rw [hAT] at hy
        have hl := (unhide HX2).2.2.2
        have := hl.below hy hl.lt
        exact ⟨this.cell 2, this.cell 3⟩)
      have HA4 := hide (show ∀ y z, AT y → Below y.heap.size y z → AT z from fun y z hy hz => by
        rw [hAT] at hy ⊢
        exact hy.trans (hz.mono hy.size))
      have HAW := hide (show ∀ y, AT y → Below W2.heap.size W2 y from fun y hy => by rw [hAT] at hy; exact hy)
      have HPM := hide (fun W => pick21 M 4 (by decide) hM W)
      rw [show (((4 : Nat)) : Int) = 4 from rfl] at HPM
      have HFL := hide (show ∀ r : Nat, r < 4 → ∀ W, Calls Tryz.prog 14 #[.int .i64 N, .int .i64 (4095 + (r : Int))] W fun e w' => e = .returned (.string (flB N (4095 + r))) ∧ Below W.heap.size W w' from fun r hr W => by
        have := filled_any N (4095 + r) (by omega) W
        rw [show (((4095 + r : Nat)) : Int) = 4095 + (r : Int) from by omega] at this
        exact this)
      clear hAT
      go_wp2_with fail
      refine wp_region_held_drew (S := AT) (by kernel_rfl) (unhide HAT) ?_
      intro hS
      refine wpAnyH_takeD 0 (some 112) (.pointer (some ⟨bb, 2, none⟩)) rfl rfl (by kernel_rfl) (by kernel_rfl) (by kernel_rfl) (fun _ _ _ h => h) (Or.inl ⟨by rfl, fun w hSw => by obtain ⟨hq1, hq2⟩ := unhide HC w hSw; clear hSw; go_simp; try omega⟩) hS ?_
      simp only [Act.put, List.setIfInBounds_toArray, List.set_cons_zero, List.set_cons_succ]
      refine wpAnyH_takeD 1 (some 113) (.int .i64 N) rfl rfl (by kernel_rfl) (by kernel_rfl) (by kernel_rfl) (fun _ _ _ h => h) (Or.inl ⟨by rfl, fun w hSw => by obtain ⟨hq1, hq2⟩ := unhide HC w hSw; clear hSw; go_simp; try omega⟩) hS ?_
      simp only [Act.put, List.setIfInBounds_toArray, List.set_cons_zero, List.set_cons_succ]
      refine wpAnyH_takeD 2 (some 114) (.pointer (some ⟨bb, 3, none⟩)) rfl rfl (by kernel_rfl) (by kernel_rfl) (by kernel_rfl) (fun _ _ _ h => h) (Or.inl ⟨by rfl, fun w hSw => by obtain ⟨hq1, hq2⟩ := unhide HC w hSw; clear hSw; go_simp; try omega⟩) hS ?_
      simp only [Act.put, List.setIfInBounds_toArray, List.set_cons_zero, List.set_cons_succ]
      refine wpAnyH_takeD 3 (some 115) (.int .i64 M) rfl rfl (by kernel_rfl) (by kernel_rfl) (by kernel_rfl) (fun _ _ _ h => h) (Or.inl ⟨by rfl, fun w hSw => by obtain ⟨hq1, hq2⟩ := unhide HC w hSw; clear hSw; go_simp; try omega⟩) hS ?_
      simp only [Act.put, List.setIfInBounds_toArray, List.set_cons_zero, List.set_cons_succ]
      refine wpAnyH_ready (rs := [4]) (by kernel_rfl) (by simp) ?_
      refine AllReadyH.cons rfl (fun K hK => ?_) AllReadyH.nil
      simp only [List.getElem_toArray, List.getElem_cons_succ, List.getElem_cons_zero]
      go_simp
      refine (unhide HPM _).mono ?_
      rintro ev yy ⟨r, hr4, rfl, hy⟩
      subst yy
      have w5 : IntKind.i64.wrap (4095 + (r : Int)) = 4095 + (r : Int) := wrapI_eq _ (by omega) (by omega)
      refine hK.out _ _ hS (fun hS => ?_)
      clear hK K
      refine wpAnyH_takeD 5 (some 117) (.int .i64 (4095 + (r : Int))) rfl rfl (by kernel_rfl) (by kernel_rfl) (by kernel_rfl) (fun _ _ _ h => h) (Or.inl ⟨by rfl, fun w hSw => by obtain ⟨hq1, hq2⟩ := unhide HC w hSw; clear hSw; go_simp; try omega⟩) hS ?_
      simp only [Act.put, List.setIfInBounds_toArray, List.set_cons_zero, List.set_cons_succ]
      refine wpAnyH_ready (rs := [6]) (by kernel_rfl) (by simp) ?_
      refine AllReadyH.cons rfl (fun K hK => ?_) AllReadyH.nil
      simp only [List.getElem_toArray, List.getElem_cons_succ, List.getElem_cons_zero]
      go_simp
      refine (unhide HFL r hr4 _).mono ?_
      rintro ev y3 ⟨rfl, hb3⟩
      have hS3 := unhide HA4 _ _ hS hb3
      clear hb3
      refine hK.out _ _ hS3 (fun hS => ?_)
      clear hK K
      refine wpAnyH_takeD 7 (some 22) (.string (flB N (4095 + r))) rfl rfl (by kernel_rfl) (by kernel_rfl) (by kernel_rfl) (fun _ _ _ h => h) (Or.inl ⟨by rfl, fun w hSw => by obtain ⟨hq1, hq2⟩ := unhide HC w hSw; clear hSw; go_simp; try omega⟩) hS ?_
      simp only [Act.put, List.setIfInBounds_toArray, List.set_cons_zero, List.set_cons_succ]
      refine wpAnyH_done (by kernel_rfl) ?_ _
      have hb3 := unhide HAW _ hS
      obtain ⟨s, hs⟩ : ∃ z, flB N (4095 + r) = z := ⟨_, rfl⟩
      have hsz : s.size ≤ 140737488355000 := by rw [← hs, flB_size]; omega
      have HZ := hide (show PlI w h F gb db i y3 E V L ∧ y3.ownsRow F 9 1 (.slice pf n cf) n (fl.map Value.string) ∧ y3.ownsRow (kb + 1) 71 2 (.slice (some ⟨ge, 0, none⟩) 4 cE) 4 (prV gb db 4) from by
        obtain ⟨z1, z2, z3, _⟩ := unhide HX2
        exact ⟨z1.bel' hb3, own_bel z2 hb3, own_bel z3 hb3⟩)
      have p0 : y3.cell? ⟨bb, 0, none⟩ = some (.int .i64 11) := by
        have hl := (unhide HX2).2.2.2
        exact (hl.below hb3 hl.lt).cell 0
      rw [hs]
      clear hs hb3 hS HAT HC HA4 HAW HPM HFL HX2 o0 o2 o3 o4 hr4
      obtain ⟨q1, q2⟩ := pr_cells (unhide HZ).2.2 k hk4
      have hk5 : (k : Int) < 4 := by omega
      have HSD := hide (sent_any w h F gb db i (unhide HENV) k hk4 s hsz y3 E V L (unhide HZ).1)
      have HZR := hide (unhide HZ).2
      clear HZ
      go_wp2_with fail
      refine (unhide HSD).mono ?_
      rintro ev y5 ⟨f, hfz, rfl, hps, hkp⟩
      obtain ⟨z1, z2⟩ := unhide HZR
      have r1 := hkp.row _ _ _ _ _ _ (by decide) (by decide) (by decide) z1
      have r2 := hkp.row _ _ _ _ _ _ (by decide) (by decide) (by decide) z2
      have HQ := hide (And.intro hps (And.intro r1 r2))
      have HOf := hide (r1.alloc (.cells #[.string f] 9))
      have hF5 : F ≤ y5.heap.size := by obtain ⟨_, _, _, q⟩ := hps; exact q.sz
      clear hps hkp z1 z2 r1 r2 HSD HZR q1 q2
      go_wp2_with (refine wpList_append_lies _ rfl (.tmp 138) (.tmp 140) 22 rfl F 9 i0 (.string ⟨#[]⟩) 1 16 Tryz.underlying22 (unhide HI).1 (unhide HI).2.1 (unhide HI).2.2.1 (unhide HI).2.2.2 rfl (by decide) _ n _ rfl (unhide HOf) ⟨y5.heap.size, 0, none⟩ 1 1 [.string f] rfl rfl (fun q u hu => gr_new y5 9 _ q u hu) (by simp [Value.oneCell']) (by decide) (by unfold maxLen; omega) (by omega) (by simp; omega) (y5.heap.size + 1) (by simp) ?_)
      intro g5 c5 x5 ho5 hg5 _ _
      have HNX := hide (show PlS w h F gb db (i + 1) x5 ∧ x5.ownsRow F 9 1 (.slice (some ⟨g5, 0, none⟩) (n + 1) c5) (n + 1) ((fl ++ [f]).map Value.string) ∧ (∀ j, j < n + 1 → ((fl ++ [f]).getD j ⟨#[]⟩).size ≤ 4122) ∧ (fl ++ [f]).length = n + 1 ∧ x5.ownsRow (kb + 1) 71 2 (.slice (some ⟨ge, 0, none⟩) 4 cE) 4 (prV gb db 4) from by
        obtain ⟨⟨E', V', L', x'⟩, r1, r2⟩ := unhide HQ
        obtain ⟨f1, f2⟩ := unhide HFZ
        have hO : Only (fun q => (Value.slice pf n cf).ownBlock = some q) y5 x5 := ((Only.refl _ y5).alloc _).grown hg5 (fun _ _ e => e)
        refine ⟨⟨E', V', L', (x'.app r1 hO).more (Nat.le_succ i)⟩, by rw [List.map_append]; exact ho5, fun j hj => ?_, by rw [List.length_append, f2]; rfl, owns_only r2 hO (fun q hq e => oTyp r1 r2 (by decide) q e hq)⟩
        by_cases e : j < n
        · rw [List.getD_eq_getElem?_getD, List.getElem?_append_left (by omega), ← List.getD_eq_getElem?_getD]
          exact f1 j e
        · obtain rfl : j = n := by omega
          rw [List.getD_eq_getElem?_getD, List.getElem?_append_right (by omega), f2, Nat.sub_self]
          exact hfz)
      clear ho5 hg5 HQ HOf
      go_wp2
      go_roundw
      case rel => exact ⟨i + 1, n + 1, _, by omega, by omega, by go_num, HNX⟩
      case measure => simp [intOf] <;> omega
    by_cases k3 : kd = 3
    · subst k3
      obtain ⟨s, rfl⟩ : ∃ z, z = S := ⟨_, rfl⟩
      have hsz : s.size ≤ 140737488355000 := by omega
      have HZ := hide (show PlI w h F gb db i W2 E V L ∧ W2.ownsRow F 9 1 (.slice pf n cf) n (fl.map Value.string) ∧ W2.ownsRow (kb + 1) 71 2 (.slice (some ⟨ge, 0, none⟩) 4 cE) 4 (prV gb db 4) from ⟨(unhide HX2).1, (unhide HX2).2.1, (unhide HX2).2.2.1⟩)
      clear HX2
      obtain ⟨q1, q2⟩ := pr_cells (unhide HZ).2.2 k hk4
      have hk5 : (k : Int) < 4 := by omega
      have HSD := hide (sent_any w h F gb db i (unhide HENV) k hk4 s hsz W2 E V L (unhide HZ).1)
      have HZR := hide (unhide HZ).2
      clear HZ
      go_wp2_with fail
      refine (unhide HSD).mono ?_
      rintro ev y5 ⟨f, hfz, rfl, hps, hkp⟩
      obtain ⟨z1, z2⟩ := unhide HZR
      have r1 := hkp.row _ _ _ _ _ _ (by decide) (by decide) (by decide) z1
      have r2 := hkp.row _ _ _ _ _ _ (by decide) (by decide) (by decide) z2
      have HQ := hide (And.intro hps (And.intro r1 r2))
      have HOf := hide (r1.alloc (.cells #[.string f] 9))
      have hF5 : F ≤ y5.heap.size := by obtain ⟨_, _, _, q⟩ := hps; exact q.sz
      clear hps hkp z1 z2 r1 r2 HSD HZR q1 q2
      go_wp2_with (refine wpList_append_lies _ rfl (.tmp 138) (.tmp 140) 22 rfl F 9 i0 (.string ⟨#[]⟩) 1 16 Tryz.underlying22 (unhide HI).1 (unhide HI).2.1 (unhide HI).2.2.1 (unhide HI).2.2.2 rfl (by decide) _ n _ rfl (unhide HOf) ⟨y5.heap.size, 0, none⟩ 1 1 [.string f] rfl rfl (fun q u hu => gr_new y5 9 _ q u hu) (by simp [Value.oneCell']) (by decide) (by unfold maxLen; omega) (by omega) (by simp; omega) (y5.heap.size + 1) (by simp) ?_)
      intro g5 c5 x5 ho5 hg5 _ _
      have HNX := hide (show PlS w h F gb db (i + 1) x5 ∧ x5.ownsRow F 9 1 (.slice (some ⟨g5, 0, none⟩) (n + 1) c5) (n + 1) ((fl ++ [f]).map Value.string) ∧ (∀ j, j < n + 1 → ((fl ++ [f]).getD j ⟨#[]⟩).size ≤ 4122) ∧ (fl ++ [f]).length = n + 1 ∧ x5.ownsRow (kb + 1) 71 2 (.slice (some ⟨ge, 0, none⟩) 4 cE) 4 (prV gb db 4) from by
        obtain ⟨⟨E', V', L', x'⟩, r1, r2⟩ := unhide HQ
        obtain ⟨f1, f2⟩ := unhide HFZ
        have hO : Only (fun q => (Value.slice pf n cf).ownBlock = some q) y5 x5 := ((Only.refl _ y5).alloc _).grown hg5 (fun _ _ e => e)
        refine ⟨⟨E', V', L', (x'.app r1 hO).more (Nat.le_succ i)⟩, by rw [List.map_append]; exact ho5, fun j hj => ?_, by rw [List.length_append, f2]; rfl, owns_only r2 hO (fun q hq e => oTyp r1 r2 (by decide) q e hq)⟩
        by_cases e : j < n
        · rw [List.getD_eq_getElem?_getD, List.getElem?_append_left (by omega), ← List.getD_eq_getElem?_getD]
          exact f1 j e
        · obtain rfl : j = n := by omega
          rw [List.getD_eq_getElem?_getD, List.getElem?_append_right (by omega), f2, Nat.sub_self]
          exact hfz)
      clear ho5 hg5 HQ HOf
      go_wp2
      go_roundw
      case rel => exact ⟨i + 1, n + 1, _, by omega, by omega, by go_num, HNX⟩
      case measure => simp [intOf] <;> omega
    have e3 : (kd == 3) = false := by simpa using k3
    have e11 : (kd == 11) = false := by simpa using k11
    obtain ⟨AT, hAT⟩ : ∃ AT : World → Prop, AT = fun y => Blk y bb #[.int .i64 kd, .int .i64 ed, .int .i64 N, .int .i64 M, .string S] 73 ∧ y.ownsRow (kb + 1) 71 2 (.slice (some ⟨ge, 0, none⟩) 4 cE) 4 (prV gb db 4) ∧ y.ownsRow F 9 1 (.slice pf n cf) n (fl.map Value.string) := ⟨_, rfl⟩
    have HAT := hide (show AT W2.drew from by
      rw [hAT]
      obtain ⟨z1, z2, z3, z4⟩ := unhide HX2
      exact ⟨z4.below (B := W2.heap.size) (Below.refl _ _).drew z4.lt, own_bel z3 (Below.refl _ _).drew, own_bel z2 (Below.refl _ _).drew⟩)
    have HC := hide (show ∀ y, AT y → y.cell? ⟨ge, 0, none⟩ = some (.pointer (some ⟨gb 0, 0, none⟩)) ∧ y.cell? ⟨ge, 1, none⟩ = some (.pointer (some ⟨db 0, 0, none⟩)) ∧ y.cell? ⟨ge, 2, none⟩ = some (.pointer (some ⟨gb 1, 0, none⟩)) ∧ y.cell? ⟨ge, 3, none⟩ = some (.pointer (some ⟨db 1, 0, none⟩)) ∧ y.cell? ⟨ge, 4, none⟩ = some (.pointer (some ⟨gb 2, 0, none⟩)) ∧ y.cell? ⟨ge, 5, none⟩ = some (.pointer (some ⟨db 2, 0, none⟩)) ∧ y.cell? ⟨ge, 6, none⟩ = some (.pointer (some ⟨gb 3, 0, none⟩)) ∧ y.cell? ⟨ge, 7, none⟩ = some (.pointer (some ⟨db 3, 0, none⟩)) ∧ y.cell? ⟨bb, 0, none⟩ = some (.int .i64 kd) ∧ y.cell? ⟨bb, 1, none⟩ = some (.int .i64 ed) ∧ y.cell? ⟨bb, 2, none⟩ = some (.int .i64 N) ∧ y.cell? ⟨bb, 3, none⟩ = some (.int .i64 M) ∧ y.cell? ⟨bb, 4, none⟩ = some (.string S) from fun y hy => by
      rw [hAT] at hy
      have q := pr_cells hy.2.1
      exact ⟨(q 0 (by omega)).1, (q 0 (by omega)).2, (q 1 (by omega)).1, (q 1 (by omega)).2, (q 2 (by omega)).1, (q 2 (by omega)).2, (q 3 (by omega)).1, (q 3 (by omega)).2, hy.1.cell 0, hy.1.cell 1, hy.1.cell 2, hy.1.cell 3, hy.1.cell 4⟩)
    have HA4 := hide (show ∀ y z, AT y → KpR y z → AT z from fun y z hy hz => by
      rw [hAT] at hy ⊢
      exact ⟨hz.blk _ _ _ (by decide) (by decide) (by decide) hy.1, hz.row _ _ _ _ _ _ (by decide) (by decide) (by decide) hy.2.1, hz.row _ _ _ _ _ _ (by decide) (by decide) (by decide) hy.2.2⟩)
    have HPA := hide (fun (a t c : Nat) (ha : a < 4) (ht : t < 4) (hc : c < 4) => play_any w h F gb db i hm9 (unhide HENV) hvh a t c ha ht hc kd ed N M hN hM S hSz W2.drew E V L ((unhide HX2).1.bel' (Below.refl _ _).drew) pf n cf fl ⟨owns_lowK (own_bel (unhide HX2).2.1 (Below.refl _ W2).drew) (Nat.zero_le _), (unhide HFZ).2, (unhide HFZ).1⟩)
    have HFI := hide (show ∀ z, AT z → z.ownsRow F 9 1 (.slice pf n cf) n (fl.map Value.string) ∧ z.ownsRow (kb + 1) 71 2 (.slice (some ⟨ge, 0, none⟩) 4 cE) 4 (prV gb db 4) from fun z hz => by
      rw [hAT] at hz
      exact ⟨hz.2.2, hz.2.1⟩)
    clear hAT HX2
    have wl0 : IntKind.i64.wrap 0 = 0 := rfl
    have wl1 : IntKind.i64.wrap 1 = 1 := rfl
    have wl2 : IntKind.i64.wrap 2 = 2 := rfl
    have wl3 : IntKind.i64.wrap 3 = 3 := rfl
    have wl4 : IntKind.i64.wrap 4 = 4 := rfl
    obtain rfl | rfl | rfl | rfl : k = 0 ∨ k = 1 ∨ k = 2 ∨ k = 3 := by omega
    · have HPL := hide (unhide HPA 0 1 3 (by omega) (by omega) (by omega))
      clear HPA
      rw [show (((0 : Nat)) : Int) = 0 from rfl]
      go_wp2_with fail
      refine wp_region_held_drew (S := AT) (by kernel_rfl) (unhide HAT) ?_
      intro hS
      refine wpAnyH_takeD 0 (some 147) (.slice (some ⟨ge, 0, none⟩) 4 cE) rfl rfl (by kernel_rfl) (by kernel_rfl) (by kernel_rfl) (fun _ _ _ h => h) (Or.inl ⟨by rfl, fun w hSw => by obtain ⟨d0, d1, d2, d3, d4, d5, d6, d7, d8, d9, d10, d11, d12⟩ := unhide HC w hSw; clear hSw; go_simp⟩) hS ?_
      simp only [Act.put, List.setIfInBounds_toArray, List.set_cons_zero, List.set_cons_succ]
      refine wpAnyH_takeD 1 (some 148) (.int .i64 0) rfl rfl (by kernel_rfl) (by kernel_rfl) (by kernel_rfl) (fun _ _ _ h => h) (Or.inl ⟨by rfl, fun w hSw => by obtain ⟨d0, d1, d2, d3, d4, d5, d6, d7, d8, d9, d10, d11, d12⟩ := unhide HC w hSw; clear hSw; go_simp⟩) hS ?_
      simp only [Act.put, List.setIfInBounds_toArray, List.set_cons_zero, List.set_cons_succ]
      refine wpAnyH_takeD 2 (some 149) (.pointer (some ⟨ge, 0, none⟩)) rfl rfl (by kernel_rfl) (by kernel_rfl) (by kernel_rfl) (fun _ _ _ h => h) (Or.inl ⟨by rfl, fun w hSw => by obtain ⟨d0, d1, d2, d3, d4, d5, d6, d7, d8, d9, d10, d11, d12⟩ := unhide HC w hSw; clear hSw; go_simp⟩) hS ?_
      simp only [Act.put, List.setIfInBounds_toArray, List.set_cons_zero, List.set_cons_succ]
      refine wpAnyH_takeD 3 (some 150) (.agg #[.pointer (some ⟨gb 0, 0, none⟩), .pointer (some ⟨db 0, 0, none⟩)]) rfl rfl (by kernel_rfl) (by kernel_rfl) (by kernel_rfl) (fun _ _ _ h => h) (Or.inl ⟨by rfl, fun w hSw => by obtain ⟨d0, d1, d2, d3, d4, d5, d6, d7, d8, d9, d10, d11, d12⟩ := unhide HC w hSw; clear hSw; go_simp⟩) hS ?_
      simp only [Act.put, List.setIfInBounds_toArray, List.set_cons_zero, List.set_cons_succ]
      refine wpAnyH_takeD 4 (some 151) (.agg #[.int .i64 kd, .int .i64 ed, .int .i64 N, .int .i64 M, .string S]) rfl rfl (by kernel_rfl) (by kernel_rfl) (by kernel_rfl) (fun _ _ _ h => h) (Or.inl ⟨by rfl, fun w hSw => by obtain ⟨d0, d1, d2, d3, d4, d5, d6, d7, d8, d9, d10, d11, d12⟩ := unhide HC w hSw; clear hSw; go_simp⟩) hS ?_
      simp only [Act.put, List.setIfInBounds_toArray, List.set_cons_zero, List.set_cons_succ]
      refine wpAnyH_takeD 5 (some 152) (.slice (some ⟨ge, 0, none⟩) 4 cE) rfl rfl (by kernel_rfl) (by kernel_rfl) (by kernel_rfl) (fun _ _ _ h => h) (Or.inl ⟨by rfl, fun w hSw => by obtain ⟨d0, d1, d2, d3, d4, d5, d6, d7, d8, d9, d10, d11, d12⟩ := unhide HC w hSw; clear hSw; go_simp⟩) hS ?_
      simp only [Act.put, List.setIfInBounds_toArray, List.set_cons_zero, List.set_cons_succ]
      refine wpAnyH_takeD 6 (some 153) (.int .i64 0) rfl rfl (by kernel_rfl) (by kernel_rfl) (by kernel_rfl) (fun _ _ _ h => h) (Or.inl ⟨by rfl, fun w hSw => by obtain ⟨d0, d1, d2, d3, d4, d5, d6, d7, d8, d9, d10, d11, d12⟩ := unhide HC w hSw; clear hSw; go_simp⟩) hS ?_
      simp only [Act.put, List.setIfInBounds_toArray, List.set_cons_zero, List.set_cons_succ]
      refine wpAnyH_takeD 7 (some 154) (.int .i64 0) rfl rfl (by kernel_rfl) (by kernel_rfl) (by kernel_rfl) (fun _ _ _ h => h) (Or.inl ⟨by rfl, fun w hSw => by obtain ⟨d0, d1, d2, d3, d4, d5, d6, d7, d8, d9, d10, d11, d12⟩ := unhide HC w hSw; clear hSw; go_simp⟩) hS ?_
      simp only [Act.put, List.setIfInBounds_toArray, List.set_cons_zero, List.set_cons_succ]
      refine wpAnyH_takeD 8 (some 155) (.int .i64 0) rfl rfl (by kernel_rfl) (by kernel_rfl) (by kernel_rfl) (fun _ _ _ h => h) (Or.inl ⟨by rfl, fun w hSw => by obtain ⟨d0, d1, d2, d3, d4, d5, d6, d7, d8, d9, d10, d11, d12⟩ := unhide HC w hSw; clear hSw; go_simp⟩) hS ?_
      simp only [Act.put, List.setIfInBounds_toArray, List.set_cons_zero, List.set_cons_succ]
      refine wpAnyH_takeD 9 (some 156) (.int .i64 1) rfl rfl (by kernel_rfl) (by kernel_rfl) (by kernel_rfl) (fun _ _ _ h => h) (Or.inl ⟨by rfl, fun w hSw => by obtain ⟨d0, d1, d2, d3, d4, d5, d6, d7, d8, d9, d10, d11, d12⟩ := unhide HC w hSw; clear hSw; go_simp⟩) hS ?_
      simp only [Act.put, List.setIfInBounds_toArray, List.set_cons_zero, List.set_cons_succ]
      refine wpAnyH_takeD 10 (some 157) (.int .i64 0) rfl rfl (by kernel_rfl) (by kernel_rfl) (by kernel_rfl) (fun _ _ _ h => h) (Or.inl ⟨by rfl, fun w hSw => by obtain ⟨d0, d1, d2, d3, d4, d5, d6, d7, d8, d9, d10, d11, d12⟩ := unhide HC w hSw; clear hSw; go_simp⟩) hS ?_
      simp only [Act.put, List.setIfInBounds_toArray, List.set_cons_zero, List.set_cons_succ]
      refine wpAnyH_takeD 11 (some 158) (.int .i64 0) rfl rfl (by kernel_rfl) (by kernel_rfl) (by kernel_rfl) (fun _ _ _ h => h) (Or.inl ⟨by rfl, fun w hSw => by obtain ⟨d0, d1, d2, d3, d4, d5, d6, d7, d8, d9, d10, d11, d12⟩ := unhide HC w hSw; clear hSw; go_simp⟩) hS ?_
      simp only [Act.put, List.setIfInBounds_toArray, List.set_cons_zero, List.set_cons_succ]
      refine wpAnyH_takeD 12 (some 159) (.int .i64 1) rfl rfl (by kernel_rfl) (by kernel_rfl) (by kernel_rfl) (fun _ _ _ h => h) (Or.inl ⟨by rfl, fun w hSw => by obtain ⟨d0, d1, d2, d3, d4, d5, d6, d7, d8, d9, d10, d11, d12⟩ := unhide HC w hSw; clear hSw; go_simp⟩) hS ?_
      simp only [Act.put, List.setIfInBounds_toArray, List.set_cons_zero, List.set_cons_succ]
      refine wpAnyH_takeD 13 (some 160) (.pointer (some ⟨ge, 2, none⟩)) rfl rfl (by kernel_rfl) (by kernel_rfl) (by kernel_rfl) (fun _ _ _ h => h) (Or.inl ⟨by rfl, fun w hSw => by obtain ⟨d0, d1, d2, d3, d4, d5, d6, d7, d8, d9, d10, d11, d12⟩ := unhide HC w hSw; clear hSw; go_simp⟩) hS ?_
      simp only [Act.put, List.setIfInBounds_toArray, List.set_cons_zero, List.set_cons_succ]
      refine wpAnyH_takeD 14 (some 161) (.agg #[.pointer (some ⟨gb 1, 0, none⟩), .pointer (some ⟨db 1, 0, none⟩)]) rfl rfl (by kernel_rfl) (by kernel_rfl) (by kernel_rfl) (fun _ _ _ h => h) (Or.inl ⟨by rfl, fun w hSw => by obtain ⟨d0, d1, d2, d3, d4, d5, d6, d7, d8, d9, d10, d11, d12⟩ := unhide HC w hSw; clear hSw; go_simp⟩) hS ?_
      simp only [Act.put, List.setIfInBounds_toArray, List.set_cons_zero, List.set_cons_succ]
      refine wpAnyH_takeD 15 (some 162) (.slice (some ⟨ge, 0, none⟩) 4 cE) rfl rfl (by kernel_rfl) (by kernel_rfl) (by kernel_rfl) (fun _ _ _ h => h) (Or.inl ⟨by rfl, fun w hSw => by obtain ⟨d0, d1, d2, d3, d4, d5, d6, d7, d8, d9, d10, d11, d12⟩ := unhide HC w hSw; clear hSw; go_simp⟩) hS ?_
      simp only [Act.put, List.setIfInBounds_toArray, List.set_cons_zero, List.set_cons_succ]
      refine wpAnyH_takeD 16 (some 163) (.int .i64 2) rfl rfl (by kernel_rfl) (by kernel_rfl) (by kernel_rfl) (fun _ _ _ h => h) (Or.inl ⟨by rfl, fun w hSw => by obtain ⟨d0, d1, d2, d3, d4, d5, d6, d7, d8, d9, d10, d11, d12⟩ := unhide HC w hSw; clear hSw; go_simp⟩) hS ?_
      simp only [Act.put, List.setIfInBounds_toArray, List.set_cons_zero, List.set_cons_succ]
      refine wpAnyH_takeD 17 (some 164) (.int .i64 3) rfl rfl (by kernel_rfl) (by kernel_rfl) (by kernel_rfl) (fun _ _ _ h => h) (Or.inl ⟨by rfl, fun w hSw => by obtain ⟨d0, d1, d2, d3, d4, d5, d6, d7, d8, d9, d10, d11, d12⟩ := unhide HC w hSw; clear hSw; go_simp⟩) hS ?_
      simp only [Act.put, List.setIfInBounds_toArray, List.set_cons_zero, List.set_cons_succ]
      refine wpAnyH_takeD 18 (some 165) (.int .i64 0) rfl rfl (by kernel_rfl) (by kernel_rfl) (by kernel_rfl) (fun _ _ _ h => h) (Or.inl ⟨by rfl, fun w hSw => by obtain ⟨d0, d1, d2, d3, d4, d5, d6, d7, d8, d9, d10, d11, d12⟩ := unhide HC w hSw; clear hSw; go_simp⟩) hS ?_
      simp only [Act.put, List.setIfInBounds_toArray, List.set_cons_zero, List.set_cons_succ]
      refine wpAnyH_takeD 19 (some 166) (.int .i64 0) rfl rfl (by kernel_rfl) (by kernel_rfl) (by kernel_rfl) (fun _ _ _ h => h) (Or.inl ⟨by rfl, fun w hSw => by obtain ⟨d0, d1, d2, d3, d4, d5, d6, d7, d8, d9, d10, d11, d12⟩ := unhide HC w hSw; clear hSw; go_simp⟩) hS ?_
      simp only [Act.put, List.setIfInBounds_toArray, List.set_cons_zero, List.set_cons_succ]
      refine wpAnyH_takeD 20 (some 167) (.int .i64 3) rfl rfl (by kernel_rfl) (by kernel_rfl) (by kernel_rfl) (fun _ _ _ h => h) (Or.inl ⟨by rfl, fun w hSw => by obtain ⟨d0, d1, d2, d3, d4, d5, d6, d7, d8, d9, d10, d11, d12⟩ := unhide HC w hSw; clear hSw; go_simp⟩) hS ?_
      simp only [Act.put, List.setIfInBounds_toArray, List.set_cons_zero, List.set_cons_succ]
      refine wpAnyH_takeD 21 (some 168) (.pointer (some ⟨ge, 6, none⟩)) rfl rfl (by kernel_rfl) (by kernel_rfl) (by kernel_rfl) (fun _ _ _ h => h) (Or.inl ⟨by rfl, fun w hSw => by obtain ⟨d0, d1, d2, d3, d4, d5, d6, d7, d8, d9, d10, d11, d12⟩ := unhide HC w hSw; clear hSw; go_simp⟩) hS ?_
      simp only [Act.put, List.setIfInBounds_toArray, List.set_cons_zero, List.set_cons_succ]
      refine wpAnyH_takeD 22 (some 169) (.agg #[.pointer (some ⟨gb 3, 0, none⟩), .pointer (some ⟨db 3, 0, none⟩)]) rfl rfl (by kernel_rfl) (by kernel_rfl) (by kernel_rfl) (fun _ _ _ h => h) (Or.inl ⟨by rfl, fun w hSw => by obtain ⟨d0, d1, d2, d3, d4, d5, d6, d7, d8, d9, d10, d11, d12⟩ := unhide HC w hSw; clear hSw; go_simp⟩) hS ?_
      simp only [Act.put, List.setIfInBounds_toArray, List.set_cons_zero, List.set_cons_succ]
      refine wpAnyH_takeD 23 (some 170) (.slice pf n cf) rfl rfl (by kernel_rfl) (by kernel_rfl) (by kernel_rfl) (fun _ _ _ h => h) (Or.inl ⟨by rfl, fun w hSw => by obtain ⟨d0, d1, d2, d3, d4, d5, d6, d7, d8, d9, d10, d11, d12⟩ := unhide HC w hSw; clear hSw; go_simp⟩) hS ?_
      simp only [Act.put, List.setIfInBounds_toArray, List.set_cons_zero, List.set_cons_succ]
      refine wpAnyH_ready (rs := [24]) (by kernel_rfl) (by simp) ?_
      refine AllReadyH.cons rfl (fun K hK => ?_) AllReadyH.nil
      simp only [List.getElem_toArray, List.getElem_cons_succ, List.getElem_cons_zero]
      go_simp
      refine (unhide HPL).mono ?_
      rintro ev y4 ⟨rfl, hps, hkp⟩
      have hS9 := unhide HA4 _ _ (unhide HAT) hkp
      have HQ := hide (And.intro hps hkp)
      clear hps hkp
      refine hK.out _ _ hS9 (fun hS => ?_)
      clear hK K
      refine wpAnyH_takeD 25 (some 26) (.bool true) rfl rfl (by kernel_rfl) (by kernel_rfl) (by kernel_rfl) (fun _ _ _ h => h) (Or.inl ⟨by rfl, fun w hSw => by obtain ⟨d0, d1, d2, d3, d4, d5, d6, d7, d8, d9, d10, d11, d12⟩ := unhide HC w hSw; clear hSw; go_simp⟩) hS ?_
      simp only [Act.put, List.setIfInBounds_toArray, List.set_cons_zero, List.set_cons_succ]
      refine wpAnyH_done (by kernel_rfl) ?_ _
      obtain ⟨z1, z2⟩ := unhide HFI _ hS
      have HNX := hide (show PlS w h F gb db (i + 1) y4 ∧ y4.ownsRow F 9 1 (.slice pf n cf) n (fl.map Value.string) ∧ (∀ j, j < n → (fl.getD j ⟨#[]⟩).size ≤ 4122) ∧ fl.length = n ∧ y4.ownsRow (kb + 1) 71 2 (.slice (some ⟨ge, 0, none⟩) 4 cE) 4 (prV gb db 4) from ⟨(unhide HQ).1, z1, (unhide HFZ).1, (unhide HFZ).2, z2⟩)
      clear z1 z2 hS HQ HPL HAT HC HA4 HFI
      go_wp2
      go_roundw
      case rel => exact ⟨i + 1, n, fl, by omega, by omega, by go_num, HNX⟩
      case measure => simp [intOf] <;> omega
    · have HPL := hide (unhide HPA 1 0 2 (by omega) (by omega) (by omega))
      clear HPA
      rw [show (((1 : Nat)) : Int) = 1 from rfl]
      go_wp2_with fail
      refine wp_region_held_drew (S := AT) (by kernel_rfl) (unhide HAT) ?_
      intro hS
      refine wpAnyH_takeD 0 (some 147) (.slice (some ⟨ge, 0, none⟩) 4 cE) rfl rfl (by kernel_rfl) (by kernel_rfl) (by kernel_rfl) (fun _ _ _ h => h) (Or.inl ⟨by rfl, fun w hSw => by obtain ⟨d0, d1, d2, d3, d4, d5, d6, d7, d8, d9, d10, d11, d12⟩ := unhide HC w hSw; clear hSw; go_simp⟩) hS ?_
      simp only [Act.put, List.setIfInBounds_toArray, List.set_cons_zero, List.set_cons_succ]
      refine wpAnyH_takeD 1 (some 148) (.int .i64 1) rfl rfl (by kernel_rfl) (by kernel_rfl) (by kernel_rfl) (fun _ _ _ h => h) (Or.inl ⟨by rfl, fun w hSw => by obtain ⟨d0, d1, d2, d3, d4, d5, d6, d7, d8, d9, d10, d11, d12⟩ := unhide HC w hSw; clear hSw; go_simp⟩) hS ?_
      simp only [Act.put, List.setIfInBounds_toArray, List.set_cons_zero, List.set_cons_succ]
      refine wpAnyH_takeD 2 (some 149) (.pointer (some ⟨ge, 2, none⟩)) rfl rfl (by kernel_rfl) (by kernel_rfl) (by kernel_rfl) (fun _ _ _ h => h) (Or.inl ⟨by rfl, fun w hSw => by obtain ⟨d0, d1, d2, d3, d4, d5, d6, d7, d8, d9, d10, d11, d12⟩ := unhide HC w hSw; clear hSw; go_simp⟩) hS ?_
      simp only [Act.put, List.setIfInBounds_toArray, List.set_cons_zero, List.set_cons_succ]
      refine wpAnyH_takeD 3 (some 150) (.agg #[.pointer (some ⟨gb 1, 0, none⟩), .pointer (some ⟨db 1, 0, none⟩)]) rfl rfl (by kernel_rfl) (by kernel_rfl) (by kernel_rfl) (fun _ _ _ h => h) (Or.inl ⟨by rfl, fun w hSw => by obtain ⟨d0, d1, d2, d3, d4, d5, d6, d7, d8, d9, d10, d11, d12⟩ := unhide HC w hSw; clear hSw; go_simp⟩) hS ?_
      simp only [Act.put, List.setIfInBounds_toArray, List.set_cons_zero, List.set_cons_succ]
      refine wpAnyH_takeD 4 (some 151) (.agg #[.int .i64 kd, .int .i64 ed, .int .i64 N, .int .i64 M, .string S]) rfl rfl (by kernel_rfl) (by kernel_rfl) (by kernel_rfl) (fun _ _ _ h => h) (Or.inl ⟨by rfl, fun w hSw => by obtain ⟨d0, d1, d2, d3, d4, d5, d6, d7, d8, d9, d10, d11, d12⟩ := unhide HC w hSw; clear hSw; go_simp⟩) hS ?_
      simp only [Act.put, List.setIfInBounds_toArray, List.set_cons_zero, List.set_cons_succ]
      refine wpAnyH_takeD 5 (some 152) (.slice (some ⟨ge, 0, none⟩) 4 cE) rfl rfl (by kernel_rfl) (by kernel_rfl) (by kernel_rfl) (fun _ _ _ h => h) (Or.inl ⟨by rfl, fun w hSw => by obtain ⟨d0, d1, d2, d3, d4, d5, d6, d7, d8, d9, d10, d11, d12⟩ := unhide HC w hSw; clear hSw; go_simp⟩) hS ?_
      simp only [Act.put, List.setIfInBounds_toArray, List.set_cons_zero, List.set_cons_succ]
      refine wpAnyH_takeD 6 (some 153) (.int .i64 1) rfl rfl (by kernel_rfl) (by kernel_rfl) (by kernel_rfl) (fun _ _ _ h => h) (Or.inl ⟨by rfl, fun w hSw => by obtain ⟨d0, d1, d2, d3, d4, d5, d6, d7, d8, d9, d10, d11, d12⟩ := unhide HC w hSw; clear hSw; go_simp⟩) hS ?_
      simp only [Act.put, List.setIfInBounds_toArray, List.set_cons_zero, List.set_cons_succ]
      refine wpAnyH_takeD 7 (some 154) (.int .i64 0) rfl rfl (by kernel_rfl) (by kernel_rfl) (by kernel_rfl) (fun _ _ _ h => h) (Or.inl ⟨by rfl, fun w hSw => by obtain ⟨d0, d1, d2, d3, d4, d5, d6, d7, d8, d9, d10, d11, d12⟩ := unhide HC w hSw; clear hSw; go_simp⟩) hS ?_
      simp only [Act.put, List.setIfInBounds_toArray, List.set_cons_zero, List.set_cons_succ]
      refine wpAnyH_takeD 8 (some 155) (.int .i64 0) rfl rfl (by kernel_rfl) (by kernel_rfl) (by kernel_rfl) (fun _ _ _ h => h) (Or.inl ⟨by rfl, fun w hSw => by obtain ⟨d0, d1, d2, d3, d4, d5, d6, d7, d8, d9, d10, d11, d12⟩ := unhide HC w hSw; clear hSw; go_simp⟩) hS ?_
      simp only [Act.put, List.setIfInBounds_toArray, List.set_cons_zero, List.set_cons_succ]
      refine wpAnyH_takeD 9 (some 156) (.int .i64 1) rfl rfl (by kernel_rfl) (by kernel_rfl) (by kernel_rfl) (fun _ _ _ h => h) (Or.inl ⟨by rfl, fun w hSw => by obtain ⟨d0, d1, d2, d3, d4, d5, d6, d7, d8, d9, d10, d11, d12⟩ := unhide HC w hSw; clear hSw; go_simp⟩) hS ?_
      simp only [Act.put, List.setIfInBounds_toArray, List.set_cons_zero, List.set_cons_succ]
      refine wpAnyH_takeD 10 (some 157) (.int .i64 1) rfl rfl (by kernel_rfl) (by kernel_rfl) (by kernel_rfl) (fun _ _ _ h => h) (Or.inl ⟨by rfl, fun w hSw => by obtain ⟨d0, d1, d2, d3, d4, d5, d6, d7, d8, d9, d10, d11, d12⟩ := unhide HC w hSw; clear hSw; go_simp⟩) hS ?_
      simp only [Act.put, List.setIfInBounds_toArray, List.set_cons_zero, List.set_cons_succ]
      refine wpAnyH_takeD 11 (some 158) (.int .i64 1) rfl rfl (by kernel_rfl) (by kernel_rfl) (by kernel_rfl) (fun _ _ _ h => h) (Or.inl ⟨by rfl, fun w hSw => by obtain ⟨d0, d1, d2, d3, d4, d5, d6, d7, d8, d9, d10, d11, d12⟩ := unhide HC w hSw; clear hSw; go_simp⟩) hS ?_
      simp only [Act.put, List.setIfInBounds_toArray, List.set_cons_zero, List.set_cons_succ]
      refine wpAnyH_takeD 12 (some 159) (.int .i64 0) rfl rfl (by kernel_rfl) (by kernel_rfl) (by kernel_rfl) (fun _ _ _ h => h) (Or.inl ⟨by rfl, fun w hSw => by obtain ⟨d0, d1, d2, d3, d4, d5, d6, d7, d8, d9, d10, d11, d12⟩ := unhide HC w hSw; clear hSw; go_simp⟩) hS ?_
      simp only [Act.put, List.setIfInBounds_toArray, List.set_cons_zero, List.set_cons_succ]
      refine wpAnyH_takeD 13 (some 160) (.pointer (some ⟨ge, 0, none⟩)) rfl rfl (by kernel_rfl) (by kernel_rfl) (by kernel_rfl) (fun _ _ _ h => h) (Or.inl ⟨by rfl, fun w hSw => by obtain ⟨d0, d1, d2, d3, d4, d5, d6, d7, d8, d9, d10, d11, d12⟩ := unhide HC w hSw; clear hSw; go_simp⟩) hS ?_
      simp only [Act.put, List.setIfInBounds_toArray, List.set_cons_zero, List.set_cons_succ]
      refine wpAnyH_takeD 14 (some 161) (.agg #[.pointer (some ⟨gb 0, 0, none⟩), .pointer (some ⟨db 0, 0, none⟩)]) rfl rfl (by kernel_rfl) (by kernel_rfl) (by kernel_rfl) (fun _ _ _ h => h) (Or.inl ⟨by rfl, fun w hSw => by obtain ⟨d0, d1, d2, d3, d4, d5, d6, d7, d8, d9, d10, d11, d12⟩ := unhide HC w hSw; clear hSw; go_simp⟩) hS ?_
      simp only [Act.put, List.setIfInBounds_toArray, List.set_cons_zero, List.set_cons_succ]
      refine wpAnyH_takeD 15 (some 162) (.slice (some ⟨ge, 0, none⟩) 4 cE) rfl rfl (by kernel_rfl) (by kernel_rfl) (by kernel_rfl) (fun _ _ _ h => h) (Or.inl ⟨by rfl, fun w hSw => by obtain ⟨d0, d1, d2, d3, d4, d5, d6, d7, d8, d9, d10, d11, d12⟩ := unhide HC w hSw; clear hSw; go_simp⟩) hS ?_
      simp only [Act.put, List.setIfInBounds_toArray, List.set_cons_zero, List.set_cons_succ]
      refine wpAnyH_takeD 16 (some 163) (.int .i64 2) rfl rfl (by kernel_rfl) (by kernel_rfl) (by kernel_rfl) (fun _ _ _ h => h) (Or.inl ⟨by rfl, fun w hSw => by obtain ⟨d0, d1, d2, d3, d4, d5, d6, d7, d8, d9, d10, d11, d12⟩ := unhide HC w hSw; clear hSw; go_simp⟩) hS ?_
      simp only [Act.put, List.setIfInBounds_toArray, List.set_cons_zero, List.set_cons_succ]
      refine wpAnyH_takeD 17 (some 164) (.int .i64 3) rfl rfl (by kernel_rfl) (by kernel_rfl) (by kernel_rfl) (fun _ _ _ h => h) (Or.inl ⟨by rfl, fun w hSw => by obtain ⟨d0, d1, d2, d3, d4, d5, d6, d7, d8, d9, d10, d11, d12⟩ := unhide HC w hSw; clear hSw; go_simp⟩) hS ?_
      simp only [Act.put, List.setIfInBounds_toArray, List.set_cons_zero, List.set_cons_succ]
      refine wpAnyH_takeD 18 (some 165) (.int .i64 1) rfl rfl (by kernel_rfl) (by kernel_rfl) (by kernel_rfl) (fun _ _ _ h => h) (Or.inl ⟨by rfl, fun w hSw => by obtain ⟨d0, d1, d2, d3, d4, d5, d6, d7, d8, d9, d10, d11, d12⟩ := unhide HC w hSw; clear hSw; go_simp⟩) hS ?_
      simp only [Act.put, List.setIfInBounds_toArray, List.set_cons_zero, List.set_cons_succ]
      refine wpAnyH_takeD 19 (some 166) (.int .i64 1) rfl rfl (by kernel_rfl) (by kernel_rfl) (by kernel_rfl) (fun _ _ _ h => h) (Or.inl ⟨by rfl, fun w hSw => by obtain ⟨d0, d1, d2, d3, d4, d5, d6, d7, d8, d9, d10, d11, d12⟩ := unhide HC w hSw; clear hSw; go_simp⟩) hS ?_
      simp only [Act.put, List.setIfInBounds_toArray, List.set_cons_zero, List.set_cons_succ]
      refine wpAnyH_takeD 20 (some 167) (.int .i64 2) rfl rfl (by kernel_rfl) (by kernel_rfl) (by kernel_rfl) (fun _ _ _ h => h) (Or.inl ⟨by rfl, fun w hSw => by obtain ⟨d0, d1, d2, d3, d4, d5, d6, d7, d8, d9, d10, d11, d12⟩ := unhide HC w hSw; clear hSw; go_simp⟩) hS ?_
      simp only [Act.put, List.setIfInBounds_toArray, List.set_cons_zero, List.set_cons_succ]
      refine wpAnyH_takeD 21 (some 168) (.pointer (some ⟨ge, 4, none⟩)) rfl rfl (by kernel_rfl) (by kernel_rfl) (by kernel_rfl) (fun _ _ _ h => h) (Or.inl ⟨by rfl, fun w hSw => by obtain ⟨d0, d1, d2, d3, d4, d5, d6, d7, d8, d9, d10, d11, d12⟩ := unhide HC w hSw; clear hSw; go_simp⟩) hS ?_
      simp only [Act.put, List.setIfInBounds_toArray, List.set_cons_zero, List.set_cons_succ]
      refine wpAnyH_takeD 22 (some 169) (.agg #[.pointer (some ⟨gb 2, 0, none⟩), .pointer (some ⟨db 2, 0, none⟩)]) rfl rfl (by kernel_rfl) (by kernel_rfl) (by kernel_rfl) (fun _ _ _ h => h) (Or.inl ⟨by rfl, fun w hSw => by obtain ⟨d0, d1, d2, d3, d4, d5, d6, d7, d8, d9, d10, d11, d12⟩ := unhide HC w hSw; clear hSw; go_simp⟩) hS ?_
      simp only [Act.put, List.setIfInBounds_toArray, List.set_cons_zero, List.set_cons_succ]
      refine wpAnyH_takeD 23 (some 170) (.slice pf n cf) rfl rfl (by kernel_rfl) (by kernel_rfl) (by kernel_rfl) (fun _ _ _ h => h) (Or.inl ⟨by rfl, fun w hSw => by obtain ⟨d0, d1, d2, d3, d4, d5, d6, d7, d8, d9, d10, d11, d12⟩ := unhide HC w hSw; clear hSw; go_simp⟩) hS ?_
      simp only [Act.put, List.setIfInBounds_toArray, List.set_cons_zero, List.set_cons_succ]
      refine wpAnyH_ready (rs := [24]) (by kernel_rfl) (by simp) ?_
      refine AllReadyH.cons rfl (fun K hK => ?_) AllReadyH.nil
      simp only [List.getElem_toArray, List.getElem_cons_succ, List.getElem_cons_zero]
      go_simp
      refine (unhide HPL).mono ?_
      rintro ev y4 ⟨rfl, hps, hkp⟩
      have hS9 := unhide HA4 _ _ (unhide HAT) hkp
      have HQ := hide (And.intro hps hkp)
      clear hps hkp
      refine hK.out _ _ hS9 (fun hS => ?_)
      clear hK K
      refine wpAnyH_takeD 25 (some 26) (.bool true) rfl rfl (by kernel_rfl) (by kernel_rfl) (by kernel_rfl) (fun _ _ _ h => h) (Or.inl ⟨by rfl, fun w hSw => by obtain ⟨d0, d1, d2, d3, d4, d5, d6, d7, d8, d9, d10, d11, d12⟩ := unhide HC w hSw; clear hSw; go_simp⟩) hS ?_
      simp only [Act.put, List.setIfInBounds_toArray, List.set_cons_zero, List.set_cons_succ]
      refine wpAnyH_done (by kernel_rfl) ?_ _
      obtain ⟨z1, z2⟩ := unhide HFI _ hS
      have HNX := hide (show PlS w h F gb db (i + 1) y4 ∧ y4.ownsRow F 9 1 (.slice pf n cf) n (fl.map Value.string) ∧ (∀ j, j < n → (fl.getD j ⟨#[]⟩).size ≤ 4122) ∧ fl.length = n ∧ y4.ownsRow (kb + 1) 71 2 (.slice (some ⟨ge, 0, none⟩) 4 cE) 4 (prV gb db 4) from ⟨(unhide HQ).1, z1, (unhide HFZ).1, (unhide HFZ).2, z2⟩)
      clear z1 z2 hS HQ HPL HAT HC HA4 HFI
      go_wp2
      go_roundw
      case rel => exact ⟨i + 1, n, fl, by omega, by omega, by go_num, HNX⟩
      case measure => simp [intOf] <;> omega
    · have HPL := hide (unhide HPA 2 3 1 (by omega) (by omega) (by omega))
      clear HPA
      rw [show (((2 : Nat)) : Int) = 2 from rfl]
      go_wp2_with fail
      refine wp_region_held_drew (S := AT) (by kernel_rfl) (unhide HAT) ?_
      intro hS
      refine wpAnyH_takeD 0 (some 147) (.slice (some ⟨ge, 0, none⟩) 4 cE) rfl rfl (by kernel_rfl) (by kernel_rfl) (by kernel_rfl) (fun _ _ _ h => h) (Or.inl ⟨by rfl, fun w hSw => by obtain ⟨d0, d1, d2, d3, d4, d5, d6, d7, d8, d9, d10, d11, d12⟩ := unhide HC w hSw; clear hSw; go_simp⟩) hS ?_
      simp only [Act.put, List.setIfInBounds_toArray, List.set_cons_zero, List.set_cons_succ]
      refine wpAnyH_takeD 1 (some 148) (.int .i64 2) rfl rfl (by kernel_rfl) (by kernel_rfl) (by kernel_rfl) (fun _ _ _ h => h) (Or.inl ⟨by rfl, fun w hSw => by obtain ⟨d0, d1, d2, d3, d4, d5, d6, d7, d8, d9, d10, d11, d12⟩ := unhide HC w hSw; clear hSw; go_simp⟩) hS ?_
      simp only [Act.put, List.setIfInBounds_toArray, List.set_cons_zero, List.set_cons_succ]
      refine wpAnyH_takeD 2 (some 149) (.pointer (some ⟨ge, 4, none⟩)) rfl rfl (by kernel_rfl) (by kernel_rfl) (by kernel_rfl) (fun _ _ _ h => h) (Or.inl ⟨by rfl, fun w hSw => by obtain ⟨d0, d1, d2, d3, d4, d5, d6, d7, d8, d9, d10, d11, d12⟩ := unhide HC w hSw; clear hSw; go_simp⟩) hS ?_
      simp only [Act.put, List.setIfInBounds_toArray, List.set_cons_zero, List.set_cons_succ]
      refine wpAnyH_takeD 3 (some 150) (.agg #[.pointer (some ⟨gb 2, 0, none⟩), .pointer (some ⟨db 2, 0, none⟩)]) rfl rfl (by kernel_rfl) (by kernel_rfl) (by kernel_rfl) (fun _ _ _ h => h) (Or.inl ⟨by rfl, fun w hSw => by obtain ⟨d0, d1, d2, d3, d4, d5, d6, d7, d8, d9, d10, d11, d12⟩ := unhide HC w hSw; clear hSw; go_simp⟩) hS ?_
      simp only [Act.put, List.setIfInBounds_toArray, List.set_cons_zero, List.set_cons_succ]
      refine wpAnyH_takeD 4 (some 151) (.agg #[.int .i64 kd, .int .i64 ed, .int .i64 N, .int .i64 M, .string S]) rfl rfl (by kernel_rfl) (by kernel_rfl) (by kernel_rfl) (fun _ _ _ h => h) (Or.inl ⟨by rfl, fun w hSw => by obtain ⟨d0, d1, d2, d3, d4, d5, d6, d7, d8, d9, d10, d11, d12⟩ := unhide HC w hSw; clear hSw; go_simp⟩) hS ?_
      simp only [Act.put, List.setIfInBounds_toArray, List.set_cons_zero, List.set_cons_succ]
      refine wpAnyH_takeD 5 (some 152) (.slice (some ⟨ge, 0, none⟩) 4 cE) rfl rfl (by kernel_rfl) (by kernel_rfl) (by kernel_rfl) (fun _ _ _ h => h) (Or.inl ⟨by rfl, fun w hSw => by obtain ⟨d0, d1, d2, d3, d4, d5, d6, d7, d8, d9, d10, d11, d12⟩ := unhide HC w hSw; clear hSw; go_simp⟩) hS ?_
      simp only [Act.put, List.setIfInBounds_toArray, List.set_cons_zero, List.set_cons_succ]
      refine wpAnyH_takeD 6 (some 153) (.int .i64 2) rfl rfl (by kernel_rfl) (by kernel_rfl) (by kernel_rfl) (fun _ _ _ h => h) (Or.inl ⟨by rfl, fun w hSw => by obtain ⟨d0, d1, d2, d3, d4, d5, d6, d7, d8, d9, d10, d11, d12⟩ := unhide HC w hSw; clear hSw; go_simp⟩) hS ?_
      simp only [Act.put, List.setIfInBounds_toArray, List.set_cons_zero, List.set_cons_succ]
      refine wpAnyH_takeD 7 (some 154) (.int .i64 1) rfl rfl (by kernel_rfl) (by kernel_rfl) (by kernel_rfl) (fun _ _ _ h => h) (Or.inl ⟨by rfl, fun w hSw => by obtain ⟨d0, d1, d2, d3, d4, d5, d6, d7, d8, d9, d10, d11, d12⟩ := unhide HC w hSw; clear hSw; go_simp⟩) hS ?_
      simp only [Act.put, List.setIfInBounds_toArray, List.set_cons_zero, List.set_cons_succ]
      refine wpAnyH_takeD 8 (some 155) (.int .i64 2) rfl rfl (by kernel_rfl) (by kernel_rfl) (by kernel_rfl) (fun _ _ _ h => h) (Or.inl ⟨by rfl, fun w hSw => by obtain ⟨d0, d1, d2, d3, d4, d5, d6, d7, d8, d9, d10, d11, d12⟩ := unhide HC w hSw; clear hSw; go_simp⟩) hS ?_
      simp only [Act.put, List.setIfInBounds_toArray, List.set_cons_zero, List.set_cons_succ]
      refine wpAnyH_takeD 9 (some 156) (.int .i64 3) rfl rfl (by kernel_rfl) (by kernel_rfl) (by kernel_rfl) (fun _ _ _ h => h) (Or.inl ⟨by rfl, fun w hSw => by obtain ⟨d0, d1, d2, d3, d4, d5, d6, d7, d8, d9, d10, d11, d12⟩ := unhide HC w hSw; clear hSw; go_simp⟩) hS ?_
      simp only [Act.put, List.setIfInBounds_toArray, List.set_cons_zero, List.set_cons_succ]
      refine wpAnyH_takeD 10 (some 157) (.int .i64 2) rfl rfl (by kernel_rfl) (by kernel_rfl) (by kernel_rfl) (fun _ _ _ h => h) (Or.inl ⟨by rfl, fun w hSw => by obtain ⟨d0, d1, d2, d3, d4, d5, d6, d7, d8, d9, d10, d11, d12⟩ := unhide HC w hSw; clear hSw; go_simp⟩) hS ?_
      simp only [Act.put, List.setIfInBounds_toArray, List.set_cons_zero, List.set_cons_succ]
      refine wpAnyH_takeD 11 (some 158) (.int .i64 0) rfl rfl (by kernel_rfl) (by kernel_rfl) (by kernel_rfl) (fun _ _ _ h => h) (Or.inl ⟨by rfl, fun w hSw => by obtain ⟨d0, d1, d2, d3, d4, d5, d6, d7, d8, d9, d10, d11, d12⟩ := unhide HC w hSw; clear hSw; go_simp⟩) hS ?_
      simp only [Act.put, List.setIfInBounds_toArray, List.set_cons_zero, List.set_cons_succ]
      refine wpAnyH_takeD 12 (some 159) (.int .i64 3) rfl rfl (by kernel_rfl) (by kernel_rfl) (by kernel_rfl) (fun _ _ _ h => h) (Or.inl ⟨by rfl, fun w hSw => by obtain ⟨d0, d1, d2, d3, d4, d5, d6, d7, d8, d9, d10, d11, d12⟩ := unhide HC w hSw; clear hSw; go_simp⟩) hS ?_
      simp only [Act.put, List.setIfInBounds_toArray, List.set_cons_zero, List.set_cons_succ]
      refine wpAnyH_takeD 13 (some 160) (.pointer (some ⟨ge, 6, none⟩)) rfl rfl (by kernel_rfl) (by kernel_rfl) (by kernel_rfl) (fun _ _ _ h => h) (Or.inl ⟨by rfl, fun w hSw => by obtain ⟨d0, d1, d2, d3, d4, d5, d6, d7, d8, d9, d10, d11, d12⟩ := unhide HC w hSw; clear hSw; go_simp⟩) hS ?_
      simp only [Act.put, List.setIfInBounds_toArray, List.set_cons_zero, List.set_cons_succ]
      refine wpAnyH_takeD 14 (some 161) (.agg #[.pointer (some ⟨gb 3, 0, none⟩), .pointer (some ⟨db 3, 0, none⟩)]) rfl rfl (by kernel_rfl) (by kernel_rfl) (by kernel_rfl) (fun _ _ _ h => h) (Or.inl ⟨by rfl, fun w hSw => by obtain ⟨d0, d1, d2, d3, d4, d5, d6, d7, d8, d9, d10, d11, d12⟩ := unhide HC w hSw; clear hSw; go_simp⟩) hS ?_
      simp only [Act.put, List.setIfInBounds_toArray, List.set_cons_zero, List.set_cons_succ]
      refine wpAnyH_takeD 15 (some 162) (.slice (some ⟨ge, 0, none⟩) 4 cE) rfl rfl (by kernel_rfl) (by kernel_rfl) (by kernel_rfl) (fun _ _ _ h => h) (Or.inl ⟨by rfl, fun w hSw => by obtain ⟨d0, d1, d2, d3, d4, d5, d6, d7, d8, d9, d10, d11, d12⟩ := unhide HC w hSw; clear hSw; go_simp⟩) hS ?_
      simp only [Act.put, List.setIfInBounds_toArray, List.set_cons_zero, List.set_cons_succ]
      refine wpAnyH_takeD 16 (some 163) (.int .i64 0) rfl rfl (by kernel_rfl) (by kernel_rfl) (by kernel_rfl) (fun _ _ _ h => h) (Or.inl ⟨by rfl, fun w hSw => by obtain ⟨d0, d1, d2, d3, d4, d5, d6, d7, d8, d9, d10, d11, d12⟩ := unhide HC w hSw; clear hSw; go_simp⟩) hS ?_
      simp only [Act.put, List.setIfInBounds_toArray, List.set_cons_zero, List.set_cons_succ]
      refine wpAnyH_takeD 17 (some 164) (.int .i64 1) rfl rfl (by kernel_rfl) (by kernel_rfl) (by kernel_rfl) (fun _ _ _ h => h) (Or.inl ⟨by rfl, fun w hSw => by obtain ⟨d0, d1, d2, d3, d4, d5, d6, d7, d8, d9, d10, d11, d12⟩ := unhide HC w hSw; clear hSw; go_simp⟩) hS ?_
      simp only [Act.put, List.setIfInBounds_toArray, List.set_cons_zero, List.set_cons_succ]
      refine wpAnyH_takeD 18 (some 165) (.int .i64 2) rfl rfl (by kernel_rfl) (by kernel_rfl) (by kernel_rfl) (fun _ _ _ h => h) (Or.inl ⟨by rfl, fun w hSw => by obtain ⟨d0, d1, d2, d3, d4, d5, d6, d7, d8, d9, d10, d11, d12⟩ := unhide HC w hSw; clear hSw; go_simp⟩) hS ?_
      simp only [Act.put, List.setIfInBounds_toArray, List.set_cons_zero, List.set_cons_succ]
      refine wpAnyH_takeD 19 (some 166) (.int .i64 0) rfl rfl (by kernel_rfl) (by kernel_rfl) (by kernel_rfl) (fun _ _ _ h => h) (Or.inl ⟨by rfl, fun w hSw => by obtain ⟨d0, d1, d2, d3, d4, d5, d6, d7, d8, d9, d10, d11, d12⟩ := unhide HC w hSw; clear hSw; go_simp⟩) hS ?_
      simp only [Act.put, List.setIfInBounds_toArray, List.set_cons_zero, List.set_cons_succ]
      refine wpAnyH_takeD 20 (some 167) (.int .i64 1) rfl rfl (by kernel_rfl) (by kernel_rfl) (by kernel_rfl) (fun _ _ _ h => h) (Or.inl ⟨by rfl, fun w hSw => by obtain ⟨d0, d1, d2, d3, d4, d5, d6, d7, d8, d9, d10, d11, d12⟩ := unhide HC w hSw; clear hSw; go_simp⟩) hS ?_
      simp only [Act.put, List.setIfInBounds_toArray, List.set_cons_zero, List.set_cons_succ]
      refine wpAnyH_takeD 21 (some 168) (.pointer (some ⟨ge, 2, none⟩)) rfl rfl (by kernel_rfl) (by kernel_rfl) (by kernel_rfl) (fun _ _ _ h => h) (Or.inl ⟨by rfl, fun w hSw => by obtain ⟨d0, d1, d2, d3, d4, d5, d6, d7, d8, d9, d10, d11, d12⟩ := unhide HC w hSw; clear hSw; go_simp⟩) hS ?_
      simp only [Act.put, List.setIfInBounds_toArray, List.set_cons_zero, List.set_cons_succ]
      refine wpAnyH_takeD 22 (some 169) (.agg #[.pointer (some ⟨gb 1, 0, none⟩), .pointer (some ⟨db 1, 0, none⟩)]) rfl rfl (by kernel_rfl) (by kernel_rfl) (by kernel_rfl) (fun _ _ _ h => h) (Or.inl ⟨by rfl, fun w hSw => by obtain ⟨d0, d1, d2, d3, d4, d5, d6, d7, d8, d9, d10, d11, d12⟩ := unhide HC w hSw; clear hSw; go_simp⟩) hS ?_
      simp only [Act.put, List.setIfInBounds_toArray, List.set_cons_zero, List.set_cons_succ]
      refine wpAnyH_takeD 23 (some 170) (.slice pf n cf) rfl rfl (by kernel_rfl) (by kernel_rfl) (by kernel_rfl) (fun _ _ _ h => h) (Or.inl ⟨by rfl, fun w hSw => by obtain ⟨d0, d1, d2, d3, d4, d5, d6, d7, d8, d9, d10, d11, d12⟩ := unhide HC w hSw; clear hSw; go_simp⟩) hS ?_
      simp only [Act.put, List.setIfInBounds_toArray, List.set_cons_zero, List.set_cons_succ]
      refine wpAnyH_ready (rs := [24]) (by kernel_rfl) (by simp) ?_
      refine AllReadyH.cons rfl (fun K hK => ?_) AllReadyH.nil
      simp only [List.getElem_toArray, List.getElem_cons_succ, List.getElem_cons_zero]
      go_simp
      refine (unhide HPL).mono ?_
      rintro ev y4 ⟨rfl, hps, hkp⟩
      have hS9 := unhide HA4 _ _ (unhide HAT) hkp
      have HQ := hide (And.intro hps hkp)
      clear hps hkp
      refine hK.out _ _ hS9 (fun hS => ?_)
      clear hK K
      refine wpAnyH_takeD 25 (some 26) (.bool true) rfl rfl (by kernel_rfl) (by kernel_rfl) (by kernel_rfl) (fun _ _ _ h => h) (Or.inl ⟨by rfl, fun w hSw => by obtain ⟨d0, d1, d2, d3, d4, d5, d6, d7, d8, d9, d10, d11, d12⟩ := unhide HC w hSw; clear hSw; go_simp⟩) hS ?_
      simp only [Act.put, List.setIfInBounds_toArray, List.set_cons_zero, List.set_cons_succ]
      refine wpAnyH_done (by kernel_rfl) ?_ _
      obtain ⟨z1, z2⟩ := unhide HFI _ hS
      have HNX := hide (show PlS w h F gb db (i + 1) y4 ∧ y4.ownsRow F 9 1 (.slice pf n cf) n (fl.map Value.string) ∧ (∀ j, j < n → (fl.getD j ⟨#[]⟩).size ≤ 4122) ∧ fl.length = n ∧ y4.ownsRow (kb + 1) 71 2 (.slice (some ⟨ge, 0, none⟩) 4 cE) 4 (prV gb db 4) from ⟨(unhide HQ).1, z1, (unhide HFZ).1, (unhide HFZ).2, z2⟩)
      clear z1 z2 hS HQ HPL HAT HC HA4 HFI
      go_wp2
      go_roundw
      case rel => exact ⟨i + 1, n, fl, by omega, by omega, by go_num, HNX⟩
      case measure => simp [intOf] <;> omega
    · have HPL := hide (unhide HPA 3 2 0 (by omega) (by omega) (by omega))
      clear HPA
      rw [show (((3 : Nat)) : Int) = 3 from rfl]
      go_wp2_with fail
      refine wp_region_held_drew (S := AT) (by kernel_rfl) (unhide HAT) ?_
      intro hS
      refine wpAnyH_takeD 0 (some 147) (.slice (some ⟨ge, 0, none⟩) 4 cE) rfl rfl (by kernel_rfl) (by kernel_rfl) (by kernel_rfl) (fun _ _ _ h => h) (Or.inl ⟨by rfl, fun w hSw => by obtain ⟨d0, d1, d2, d3, d4, d5, d6, d7, d8, d9, d10, d11, d12⟩ := unhide HC w hSw; clear hSw; go_simp⟩) hS ?_
      simp only [Act.put, List.setIfInBounds_toArray, List.set_cons_zero, List.set_cons_succ]
      refine wpAnyH_takeD 1 (some 148) (.int .i64 3) rfl rfl (by kernel_rfl) (by kernel_rfl) (by kernel_rfl) (fun _ _ _ h => h) (Or.inl ⟨by rfl, fun w hSw => by obtain ⟨d0, d1, d2, d3, d4, d5, d6, d7, d8, d9, d10, d11, d12⟩ := unhide HC w hSw; clear hSw; go_simp⟩) hS ?_
      simp only [Act.put, List.setIfInBounds_toArray, List.set_cons_zero, List.set_cons_succ]
      refine wpAnyH_takeD 2 (some 149) (.pointer (some ⟨ge, 6, none⟩)) rfl rfl (by kernel_rfl) (by kernel_rfl) (by kernel_rfl) (fun _ _ _ h => h) (Or.inl ⟨by rfl, fun w hSw => by obtain ⟨d0, d1, d2, d3, d4, d5, d6, d7, d8, d9, d10, d11, d12⟩ := unhide HC w hSw; clear hSw; go_simp⟩) hS ?_
      simp only [Act.put, List.setIfInBounds_toArray, List.set_cons_zero, List.set_cons_succ]
      refine wpAnyH_takeD 3 (some 150) (.agg #[.pointer (some ⟨gb 3, 0, none⟩), .pointer (some ⟨db 3, 0, none⟩)]) rfl rfl (by kernel_rfl) (by kernel_rfl) (by kernel_rfl) (fun _ _ _ h => h) (Or.inl ⟨by rfl, fun w hSw => by obtain ⟨d0, d1, d2, d3, d4, d5, d6, d7, d8, d9, d10, d11, d12⟩ := unhide HC w hSw; clear hSw; go_simp⟩) hS ?_
      simp only [Act.put, List.setIfInBounds_toArray, List.set_cons_zero, List.set_cons_succ]
      refine wpAnyH_takeD 4 (some 151) (.agg #[.int .i64 kd, .int .i64 ed, .int .i64 N, .int .i64 M, .string S]) rfl rfl (by kernel_rfl) (by kernel_rfl) (by kernel_rfl) (fun _ _ _ h => h) (Or.inl ⟨by rfl, fun w hSw => by obtain ⟨d0, d1, d2, d3, d4, d5, d6, d7, d8, d9, d10, d11, d12⟩ := unhide HC w hSw; clear hSw; go_simp⟩) hS ?_
      simp only [Act.put, List.setIfInBounds_toArray, List.set_cons_zero, List.set_cons_succ]
      refine wpAnyH_takeD 5 (some 152) (.slice (some ⟨ge, 0, none⟩) 4 cE) rfl rfl (by kernel_rfl) (by kernel_rfl) (by kernel_rfl) (fun _ _ _ h => h) (Or.inl ⟨by rfl, fun w hSw => by obtain ⟨d0, d1, d2, d3, d4, d5, d6, d7, d8, d9, d10, d11, d12⟩ := unhide HC w hSw; clear hSw; go_simp⟩) hS ?_
      simp only [Act.put, List.setIfInBounds_toArray, List.set_cons_zero, List.set_cons_succ]
      refine wpAnyH_takeD 6 (some 153) (.int .i64 3) rfl rfl (by kernel_rfl) (by kernel_rfl) (by kernel_rfl) (fun _ _ _ h => h) (Or.inl ⟨by rfl, fun w hSw => by obtain ⟨d0, d1, d2, d3, d4, d5, d6, d7, d8, d9, d10, d11, d12⟩ := unhide HC w hSw; clear hSw; go_simp⟩) hS ?_
      simp only [Act.put, List.setIfInBounds_toArray, List.set_cons_zero, List.set_cons_succ]
      refine wpAnyH_takeD 7 (some 154) (.int .i64 1) rfl rfl (by kernel_rfl) (by kernel_rfl) (by kernel_rfl) (fun _ _ _ h => h) (Or.inl ⟨by rfl, fun w hSw => by obtain ⟨d0, d1, d2, d3, d4, d5, d6, d7, d8, d9, d10, d11, d12⟩ := unhide HC w hSw; clear hSw; go_simp⟩) hS ?_
      simp only [Act.put, List.setIfInBounds_toArray, List.set_cons_zero, List.set_cons_succ]
      refine wpAnyH_takeD 8 (some 155) (.int .i64 2) rfl rfl (by kernel_rfl) (by kernel_rfl) (by kernel_rfl) (fun _ _ _ h => h) (Or.inl ⟨by rfl, fun w hSw => by obtain ⟨d0, d1, d2, d3, d4, d5, d6, d7, d8, d9, d10, d11, d12⟩ := unhide HC w hSw; clear hSw; go_simp⟩) hS ?_
      simp only [Act.put, List.setIfInBounds_toArray, List.set_cons_zero, List.set_cons_succ]
      refine wpAnyH_takeD 9 (some 156) (.int .i64 3) rfl rfl (by kernel_rfl) (by kernel_rfl) (by kernel_rfl) (fun _ _ _ h => h) (Or.inl ⟨by rfl, fun w hSw => by obtain ⟨d0, d1, d2, d3, d4, d5, d6, d7, d8, d9, d10, d11, d12⟩ := unhide HC w hSw; clear hSw; go_simp⟩) hS ?_
      simp only [Act.put, List.setIfInBounds_toArray, List.set_cons_zero, List.set_cons_succ]
      refine wpAnyH_takeD 10 (some 157) (.int .i64 3) rfl rfl (by kernel_rfl) (by kernel_rfl) (by kernel_rfl) (fun _ _ _ h => h) (Or.inl ⟨by rfl, fun w hSw => by obtain ⟨d0, d1, d2, d3, d4, d5, d6, d7, d8, d9, d10, d11, d12⟩ := unhide HC w hSw; clear hSw; go_simp⟩) hS ?_
      simp only [Act.put, List.setIfInBounds_toArray, List.set_cons_zero, List.set_cons_succ]
      refine wpAnyH_takeD 11 (some 158) (.int .i64 1) rfl rfl (by kernel_rfl) (by kernel_rfl) (by kernel_rfl) (fun _ _ _ h => h) (Or.inl ⟨by rfl, fun w hSw => by obtain ⟨d0, d1, d2, d3, d4, d5, d6, d7, d8, d9, d10, d11, d12⟩ := unhide HC w hSw; clear hSw; go_simp⟩) hS ?_
      simp only [Act.put, List.setIfInBounds_toArray, List.set_cons_zero, List.set_cons_succ]
      refine wpAnyH_takeD 12 (some 159) (.int .i64 2) rfl rfl (by kernel_rfl) (by kernel_rfl) (by kernel_rfl) (fun _ _ _ h => h) (Or.inl ⟨by rfl, fun w hSw => by obtain ⟨d0, d1, d2, d3, d4, d5, d6, d7, d8, d9, d10, d11, d12⟩ := unhide HC w hSw; clear hSw; go_simp⟩) hS ?_
      simp only [Act.put, List.setIfInBounds_toArray, List.set_cons_zero, List.set_cons_succ]
      refine wpAnyH_takeD 13 (some 160) (.pointer (some ⟨ge, 4, none⟩)) rfl rfl (by kernel_rfl) (by kernel_rfl) (by kernel_rfl) (fun _ _ _ h => h) (Or.inl ⟨by rfl, fun w hSw => by obtain ⟨d0, d1, d2, d3, d4, d5, d6, d7, d8, d9, d10, d11, d12⟩ := unhide HC w hSw; clear hSw; go_simp⟩) hS ?_
      simp only [Act.put, List.setIfInBounds_toArray, List.set_cons_zero, List.set_cons_succ]
      refine wpAnyH_takeD 14 (some 161) (.agg #[.pointer (some ⟨gb 2, 0, none⟩), .pointer (some ⟨db 2, 0, none⟩)]) rfl rfl (by kernel_rfl) (by kernel_rfl) (by kernel_rfl) (fun _ _ _ h => h) (Or.inl ⟨by rfl, fun w hSw => by obtain ⟨d0, d1, d2, d3, d4, d5, d6, d7, d8, d9, d10, d11, d12⟩ := unhide HC w hSw; clear hSw; go_simp⟩) hS ?_
      simp only [Act.put, List.setIfInBounds_toArray, List.set_cons_zero, List.set_cons_succ]
      refine wpAnyH_takeD 15 (some 162) (.slice (some ⟨ge, 0, none⟩) 4 cE) rfl rfl (by kernel_rfl) (by kernel_rfl) (by kernel_rfl) (fun _ _ _ h => h) (Or.inl ⟨by rfl, fun w hSw => by obtain ⟨d0, d1, d2, d3, d4, d5, d6, d7, d8, d9, d10, d11, d12⟩ := unhide HC w hSw; clear hSw; go_simp⟩) hS ?_
      simp only [Act.put, List.setIfInBounds_toArray, List.set_cons_zero, List.set_cons_succ]
      refine wpAnyH_takeD 16 (some 163) (.int .i64 0) rfl rfl (by kernel_rfl) (by kernel_rfl) (by kernel_rfl) (fun _ _ _ h => h) (Or.inl ⟨by rfl, fun w hSw => by obtain ⟨d0, d1, d2, d3, d4, d5, d6, d7, d8, d9, d10, d11, d12⟩ := unhide HC w hSw; clear hSw; go_simp⟩) hS ?_
      simp only [Act.put, List.setIfInBounds_toArray, List.set_cons_zero, List.set_cons_succ]
      refine wpAnyH_takeD 17 (some 164) (.int .i64 1) rfl rfl (by kernel_rfl) (by kernel_rfl) (by kernel_rfl) (fun _ _ _ h => h) (Or.inl ⟨by rfl, fun w hSw => by obtain ⟨d0, d1, d2, d3, d4, d5, d6, d7, d8, d9, d10, d11, d12⟩ := unhide HC w hSw; clear hSw; go_simp⟩) hS ?_
      simp only [Act.put, List.setIfInBounds_toArray, List.set_cons_zero, List.set_cons_succ]
      refine wpAnyH_takeD 18 (some 165) (.int .i64 3) rfl rfl (by kernel_rfl) (by kernel_rfl) (by kernel_rfl) (fun _ _ _ h => h) (Or.inl ⟨by rfl, fun w hSw => by obtain ⟨d0, d1, d2, d3, d4, d5, d6, d7, d8, d9, d10, d11, d12⟩ := unhide HC w hSw; clear hSw; go_simp⟩) hS ?_
      simp only [Act.put, List.setIfInBounds_toArray, List.set_cons_zero, List.set_cons_succ]
      refine wpAnyH_takeD 19 (some 166) (.int .i64 1) rfl rfl (by kernel_rfl) (by kernel_rfl) (by kernel_rfl) (fun _ _ _ h => h) (Or.inl ⟨by rfl, fun w hSw => by obtain ⟨d0, d1, d2, d3, d4, d5, d6, d7, d8, d9, d10, d11, d12⟩ := unhide HC w hSw; clear hSw; go_simp⟩) hS ?_
      simp only [Act.put, List.setIfInBounds_toArray, List.set_cons_zero, List.set_cons_succ]
      refine wpAnyH_takeD 20 (some 167) (.int .i64 0) rfl rfl (by kernel_rfl) (by kernel_rfl) (by kernel_rfl) (fun _ _ _ h => h) (Or.inl ⟨by rfl, fun w hSw => by obtain ⟨d0, d1, d2, d3, d4, d5, d6, d7, d8, d9, d10, d11, d12⟩ := unhide HC w hSw; clear hSw; go_simp⟩) hS ?_
      simp only [Act.put, List.setIfInBounds_toArray, List.set_cons_zero, List.set_cons_succ]
      refine wpAnyH_takeD 21 (some 168) (.pointer (some ⟨ge, 0, none⟩)) rfl rfl (by kernel_rfl) (by kernel_rfl) (by kernel_rfl) (fun _ _ _ h => h) (Or.inl ⟨by rfl, fun w hSw => by obtain ⟨d0, d1, d2, d3, d4, d5, d6, d7, d8, d9, d10, d11, d12⟩ := unhide HC w hSw; clear hSw; go_simp⟩) hS ?_
      simp only [Act.put, List.setIfInBounds_toArray, List.set_cons_zero, List.set_cons_succ]
      refine wpAnyH_takeD 22 (some 169) (.agg #[.pointer (some ⟨gb 0, 0, none⟩), .pointer (some ⟨db 0, 0, none⟩)]) rfl rfl (by kernel_rfl) (by kernel_rfl) (by kernel_rfl) (fun _ _ _ h => h) (Or.inl ⟨by rfl, fun w hSw => by obtain ⟨d0, d1, d2, d3, d4, d5, d6, d7, d8, d9, d10, d11, d12⟩ := unhide HC w hSw; clear hSw; go_simp⟩) hS ?_
      simp only [Act.put, List.setIfInBounds_toArray, List.set_cons_zero, List.set_cons_succ]
      refine wpAnyH_takeD 23 (some 170) (.slice pf n cf) rfl rfl (by kernel_rfl) (by kernel_rfl) (by kernel_rfl) (fun _ _ _ h => h) (Or.inl ⟨by rfl, fun w hSw => by obtain ⟨d0, d1, d2, d3, d4, d5, d6, d7, d8, d9, d10, d11, d12⟩ := unhide HC w hSw; clear hSw; go_simp⟩) hS ?_
      simp only [Act.put, List.setIfInBounds_toArray, List.set_cons_zero, List.set_cons_succ]
      refine wpAnyH_ready (rs := [24]) (by kernel_rfl) (by simp) ?_
      refine AllReadyH.cons rfl (fun K hK => ?_) AllReadyH.nil
      simp only [List.getElem_toArray, List.getElem_cons_succ, List.getElem_cons_zero]
      go_simp
      refine (unhide HPL).mono ?_
      rintro ev y4 ⟨rfl, hps, hkp⟩
      have hS9 := unhide HA4 _ _ (unhide HAT) hkp
      have HQ := hide (And.intro hps hkp)
      clear hps hkp
      refine hK.out _ _ hS9 (fun hS => ?_)
      clear hK K
      refine wpAnyH_takeD 25 (some 26) (.bool true) rfl rfl (by kernel_rfl) (by kernel_rfl) (by kernel_rfl) (fun _ _ _ h => h) (Or.inl ⟨by rfl, fun w hSw => by obtain ⟨d0, d1, d2, d3, d4, d5, d6, d7, d8, d9, d10, d11, d12⟩ := unhide HC w hSw; clear hSw; go_simp⟩) hS ?_
      simp only [Act.put, List.setIfInBounds_toArray, List.set_cons_zero, List.set_cons_succ]
      refine wpAnyH_done (by kernel_rfl) ?_ _
      obtain ⟨z1, z2⟩ := unhide HFI _ hS
      have HNX := hide (show PlS w h F gb db (i + 1) y4 ∧ y4.ownsRow F 9 1 (.slice pf n cf) n (fl.map Value.string) ∧ (∀ j, j < n → (fl.getD j ⟨#[]⟩).size ≤ 4122) ∧ fl.length = n ∧ y4.ownsRow (kb + 1) 71 2 (.slice (some ⟨ge, 0, none⟩) 4 cE) 4 (prV gb db 4) from ⟨(unhide HQ).1, z1, (unhide HFZ).1, (unhide HFZ).2, z2⟩)
      clear z1 z2 hS HQ HPL HAT HC HA4 HFI
      go_wp2
      go_roundw
      case rel => exact ⟨i + 1, n, fl, by omega, by omega, by go_num, HNX⟩
      case measure => simp [intOf] <;> omega
  have e1 : ¬ (i : Int) < (qs : Int) := by omega
  have HBE := hide (show Below h w wi from by obtain ⟨_, _, _, q⟩ := (unhide HPS).1; exact q.bel)
  go_wp2
  go_ret
  exact ⟨rfl, unhide HBE⟩
end Go.Proofs.YtifjmldmilmfjaaGreatDoor
