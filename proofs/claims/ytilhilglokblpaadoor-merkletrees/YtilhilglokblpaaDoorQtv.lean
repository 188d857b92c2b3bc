import Derived.Test.YtilhilglokblpaaDoorQtu
import Derived.Test.YtilhilglokblpaaDoorQtw
import Derived.BigQuiet
namespace Go.Proofs.YtilhilglokblpaaDoor
open Go.RowKit
set_option maxRecDepth 100000
/-- the roots of all beginnings -/
noncomputable def rtsL (l : List ByteArray) (k : Nat) : List ByteArray := (List.range (k + 1)).map fun j => rt (l.take j)
theorem rtsL_len (l : List ByteArray) (k : Nat) : (rtsL l k).length = k + 1 := by simp [rtsL]
theorem rtsL_get (l : List ByteArray) (k j : Nat) (h : j ≤ k) : (rtsL l k).getD j ⟨#[]⟩ = rt (l.take j) := by
  rw [List.getD_eq_getElem?_getD, rtsL, List.getElem?_map, List.getElem?_range (by omega)]
  rfl
theorem rtsL_snoc (l : List ByteArray) (k : Nat) : rtsL l (k + 1) = rtsL l k ++ [rt (l.take (k + 1))] := by
  unfold rtsL
  rw [List.range_succ (n := k + 1), List.map_append]
  rfl
theorem own_touch {w w' : World} {g n : Nat} {v : Value} {xs : List Value} (h : w.ownsRow (g + 1) 9 1 v n xs) (ht : Touch g w w') : w'.ownsRow (g + 1) 9 1 v n xs := by
  have hlt := h.lt
  refine ⟨h.1, ?_⟩
  rcases h.2 with hn | ⟨g', cap, cur, rfl, hb, hg, rest⟩
  · exact .inl hn
  · have := (hlt g' rfl).2
    exact .inr ⟨g', cap, cur, rfl, hb, (ht.2 g' (by omega) this).trans hg, rest⟩
theorem own_one (w : World) (base : Nat) (x : Value) (hb : base ≤ w.heap.size) : (w.alloc (.cells #[x] 9)).ownsRow base 9 1 (.slice (some ⟨w.heap.size, 0, none⟩) 1 1) 1 [x] :=
  ⟨rfl, .inr ⟨w.heap.size, 1, #[x], rfl, hb, Blk.new w 9 _, by omega, by decide, by simp, by simp⟩⟩
theorem own_cell {w : World} {B g n c : Nat} {L : List ByteArray} (hn : L.length = n) (h : w.ownsRow B 9 1 (.slice (some ⟨g, 0, none⟩) n c) n (L.map Value.string)) (j : Nat) (hj : j < n) (r : ByteArray) (hr : L.getD j ⟨#[]⟩ = r) : w.cell? ⟨g, j, none⟩ = some (.string r) := by
  obtain ⟨g2, o2, e, _, hc⟩ := own_SB hn h j (by omega)
  injection e with e
  injection e with e1 e2
  subst e1 e2
  rw [Nat.zero_add, hr] at hc
  exact hc
set_option maxHeartbeats 400000 in
theorem pick19 (c : Int) (n : Nat) (hn : 0 < n) (hc : I64 c) (w : World) : Calls Tryd.prog 12 #[.int .i64 c, .int .i64 (n : Int)] w fun e w' => ∃ r : Nat, r < n ∧ e = .returned (.int .i64 (r : Int)) ∧ w' = w := by
  obtain ⟨hc1, hc2⟩ := hc
  have hz : ((n : Int) == 0) = false := by simp; omega
  by_cases h : c < 0
  · have e1 : (-(c + 1)).tmod (n : Int) = (-(c + 1)) % (n : Int) := Int.tmod_eq_emod_of_nonneg (by omega)
    have hp : 0 ≤ (-(c + 1)) % (n : Int) := Int.emod_nonneg _ (by omega)
    have hl : (-(c + 1)) % (n : Int) < (n : Int) := Int.emod_lt_of_pos _ (by omega)
    go_enter Tryd.func12, Tryd.ntmps12
    go_wp2
    go_ret
    exact ⟨((-(c + 1)) % (n : Int)).toNat, by omega, by simp; omega, rfl⟩
  · have e1 : c.tmod (n : Int) = c % (n : Int) := Int.tmod_eq_emod_of_nonneg (by omega)
    have hp : 0 ≤ c % (n : Int) := Int.emod_nonneg _ (by omega)
    have hl : c % (n : Int) < (n : Int) := Int.emod_lt_of_pos _ (by omega)
    go_enter Tryd.func12, Tryd.ntmps12
    go_wp2
    go_ret
    exact ⟨(c % (n : Int)).toNat, by omega, by simp; omega, rfl⟩
set_option maxHeartbeats 16000000 in
theorem proves19 (l0 : List ByteArray) (q0 : Nat) (hq0 : l0.length = q0) (fr at9 : Int) (hfr : I64 fr) (hat : I64 at9) (w : World) (c : Nat) (p : Option Addr) (hS0 : SB w w.heap.size p l0) (hz0 : ∀ j, j < l0.length → (l0.getD j ⟨#[]⟩).size ≤ 140737488351232) (hK : KTab w) (hT : BTab w) (hqc0 : q0 ≤ c) (hc9 : c ≤ 9223372036854775807) (_hpn : p = none → c = 0) : Calls Tryd.prog 3 #[.slice p q0 c, .int .i64 fr, .int .i64 at9] w fun e w' => e = .returned (.bool true) ∧ Below w.heap.size w w' := by
  obtain ⟨h, hh⟩ : ∃ h, w.heap.size = h := ⟨_, rfl⟩
  rw [hh] at hS0
  have HKB := hide (show ∀ W, Below h w W → KTab W from fun W hW => hK.below hW (by rw [← hh]; exact hK.1))
  have HTB := hide (show ∀ W, Below h w W → BTab W from fun W hW => hT.below hW (by rw [← hh]; exact hT.1))
  have hvh : 2 < h := by rw [← hh]; exact hK.1
  have HSO := hide (fun W (hW : Below h w W) => some19T W l0 q0 c h 60 p hq0 (hS0.below hW) hqc0)
  obtain ⟨l, hl⟩ : ∃ z, l0.take 60 = z := ⟨_, rfl⟩
  obtain ⟨q, hq⟩ : ∃ z, min q0 60 = z := ⟨_, rfl⟩
  have hlq : l.length = q := by rw [← hl, ← hq, List.length_take, hq0, Nat.min_comm]
  have hz : ∀ j, j < l.length → (l.getD j ⟨#[]⟩).size ≤ 140737488351232 := fun j hj => by
    rw [← hl, List.length_take] at hj
    rw [← hl, getD_take l0 60 j (by omega)]
    exact hz0 j (by omega)
  have hS : SB w h p l := fun j hj => by
    rw [← hl, List.length_take] at hj
    obtain ⟨g, o, e, hg, hc⟩ := hS0 j (by omega)
    exact ⟨g, o, e, hg, by rw [← hl, getD_take l0 60 j (by omega)]; exact hc⟩
  rw [hq] at HSO
  have hq5 : q ≤ 60 := by omega
  have hqc : q ≤ c := by omega
  have hsh : Sht l := fun j hj => by have := hz j hj; omega
  have HSB := hide (show ∀ W, Below h w W → SB W h p l from fun W hW => hS.below hW)
  have HAW := hide (fun W (hW : Below h w W) => awake19 W (unhide HKB W hW))
  have HRO := hide (fun W (hW : Below h w W) => root_any l q hlq W h c p (unhide HSB W hW) (by have := hW.size; omega) (unhide HKB W hW) hsh (by omega) hqc hc9)
  have HRM := hide (fun m (hm : m ≤ q) W (hW : Below h w W) => root_any (l.take m) m (by rw [List.length_take, hlq]; omega) W h c p (fun j hj => by
    rw [List.length_take] at hj
    obtain ⟨g, o, e, hg, hc⟩ := unhide HSB W hW j (by omega)
    exact ⟨g, o, e, hg, by rw [getD_take l m j (by omega)]; exact hc⟩) (by have := hW.size; omega) (unhide HKB W hW) (fun j hj => by
    rw [List.length_take] at hj
    rw [getD_take l m j (by omega)]
    exact hsh j (by omega)) (by omega) (by omega) hc9)
  have HGR := hide (fun m W (hW : Below h w W) => grown_any l q hlq m W h c p (unhide HSB W hW) (by have := hW.size; omega) (unhide HKB W hW) hsh (by omega) hqc hc9)
  have HPA := hide (fun i W (hW : Below h w W) => path_any l q hlq i W h c p (unhide HSB W hW) (by have := hW.size; omega) (unhide HKB W hW) hsh (by omega) hqc hc9)
  have HLQ := hide hlq
  have HLZ := hide hz
  have HLZ2 := hide hz
  have HRRS := hide (rt_size l)
  have HTK := hide (show ∀ k, (l.take k).length ≤ 60 from fun k => by rw [List.length_take]; omega)
  have HT0 := hide (show l.take 0 = [] from rfl)
  have HTA := hide (show l.take q = l from List.take_of_length_le (by omega))
  have HTS := hide (show ∀ k, k < q → l.take (k + 1) = l.take k ++ [l.getD k ⟨#[]⟩] from fun k hk => by
    rw [List.take_add_one, List.getElem?_eq_getElem (by omega), List.getD_eq_getElem?_getD, List.getElem?_eq_getElem (by omega)]
    rfl)
  have HB0 := hide (show Below h w w from Below.refl _ _)
  have HFR := hide hfr
  have HAT9 := hide hat
  obtain ⟨i0, hi, hz3, hz1, hz2⟩ := info_parts gr_str
  have HI := hide (And.intro hi (And.intro hz3 (And.intro hz1 hz2)))
  rw [hh]
  clear hS0 hS hK hT hz hsh hl hq hlq hq0 hqc0 _hpn hfr hat hi hz0 hz3 hz1 hz2
  go_enter Tryd.func3, Tryd.ntmps3
  go_wp2_with fail
  refine (unhide HAW _ (unhide HB0)).mono ?_
  rintro e y1 ⟨rfl, hb⟩
  have HB1 := hide (show Below h w y1 from (unhide HB0).trans (hb.mono (by have := (unhide HB0).size; omega)))
  clear hb HB0
  go_wp2_with fail
  refine (unhide HSO _ (unhide HB1)).mono ?_
  rintro e y ⟨rfl, hy⟩
  subst y
  go_wp2_with fail
  refine (tnew_any _).mono ?_
  rintro e y2 ⟨rfl, ht, hb, hs2⟩
  obtain ⟨g, hg⟩ : ∃ z, y1.heap.size = z := ⟨_, rfl⟩
  have hgh : h ≤ g := by have := (unhide HB1).size; omega
  rw [hg] at ht hs2 ⊢
  have HB2 := hide (show Below h w y2 from (unhide HB1).trans (hb.mono (by omega)))
  have HRT := hide (troot_any [] g y2 ht (unhide HKB y2 (unhide HB2)) (unhide HTB y2 (unhide HB2)))
  have HTR := hide ht
  clear ht hb HB1
  obtain ⟨r0, hr0⟩ : ∃ z, rt ([] : List ByteArray) = z := ⟨_, rfl⟩
  rw [hr0] at HRT
  have HR0 := hide hr0
  clear hr0
  go_wp2_with fail
  refine (unhide HRT).mono ?_
  rintro e y3 ⟨rfl, hb⟩
  have hs3 := hb.size
  have HX0 := hide (show (y3.alloc (.cells #[.string r0] 9)).ownsRow (g + 1) 9 1 (.slice (some ⟨y3.heap.size, 0, none⟩) 1 1) 1 [.string r0] from own_one y3 (g + 1) _ (by omega))
  have HX1 := hide (show TrM (y3.alloc (.cells #[.string r0] 9)) g [] from (unhide HTR).below (B := g + 1) ((hb.mono (by omega)).alloc (by omega) _) (by omega))
  have HX2 := hide (show Below h w (y3.alloc (.cells #[.string r0] 9)) from ((unhide HB2).trans (hb.mono (by omega))).alloc (by omega) _)
  clear hb HB2 HRT HTR hs3 hs2
  go_wp2
  go_loopw [10, 11] (fun rv i wr => ∃ k : Nat, k ≤ q ∧ i = .int .i64 (k : Int) ∧ Hid (wr.ownsRow (g + 1) 9 1 rv (k + 1) ((rtsL l k).map Value.string)) ∧ Hid (TrM wr g (l.take k)) ∧ Hid (Below h w wr)) (fun _ i _ => q - (intOf i).toNat)
  case atStart => exact ⟨0, by omega, rfl, hide (by rw [show (rtsL l 0).map Value.string = [.string r0] from by simp [rtsL, unhide HR0]]; exact unhide HX0), hide (by rw [unhide HT0]; exact unhide HX1), HX2⟩
  case round =>
  clear HX0 HX1 HX2
  obtain ⟨k, hk, rfl, HOW, HTR, HBW⟩ := hrel
  obtain ⟨wi, rfl⟩ : ∃ z, z = wr := ⟨_, rfl⟩
  obtain ⟨gr, cv, rfl, _, _⟩ := (unhide HOW).form (by omega)
  have hgs : g < wi.heap.size := (unhide HTR).1
  by_cases hkq : k < q
  · have e1 : (k : Int) < (q : Int) := by omega
    obtain ⟨gp, op, rfl, hgp, hc⟩ := unhide HSB wi (unhide HBW) k (by rw [unhide HLQ]; exact hkq)
    have hts := unhide HTS k hkq
    have hxz := unhide HLZ k (by rw [unhide HLQ]; exact hkq)
    generalize l.getD k ⟨#[]⟩ = x at *
    have HAD := hide (tadd_any (l.take k) x (by omega) g wi (unhide HTR) (unhide HKB wi (unhide HBW)) (by omega))
    rw [if_neg (by have := unhide HTK k; omega), ← hts] at HAD
    clear hts HTR
    go_wp2_with fail
    refine (unhide HAD).mono ?_
    rintro e y4 ⟨rfl, ht, hto⟩
    have HB4 := hide (show Below h w y4 from (unhide HBW).trans (hto.1.mono (by omega)))
    have HRT := hide (troot_any (l.take (k + 1)) g y4 ht (unhide HKB y4 (unhide HB4)) (unhide HTB y4 (unhide HB4)))
    have HT4 := hide ht
    have HO4 := hide (own_touch (unhide HOW) hto)
    have hs4 := hto.1.size
    have hg4 : g < y4.heap.size := ht.1
    have HSN := hide (rtsL_snoc l k)
    clear ht hto HAD HOW HBW
    obtain ⟨u, hu⟩ : ∃ z, rt (l.take (k + 1)) = z := ⟨_, rfl⟩
    rw [hu] at HRT HSN
    clear hu
    go_wp2_with fail
    refine (unhide HRT).mono ?_
    rintro e y5 ⟨rfl, hb⟩
    have hs5 := hb.size
    have HO5 := hide ((own_bel (unhide HO4) hb).alloc (.cells #[.string u] 9))
    have HB5 := hide (show Below (g + 1) y4 y5 from hb.mono (by omega))
    have HRL := hide (show ((rtsL l k).map Value.string).length = k + 1 from by rw [List.length_map, rtsL_len])
    clear hb HRT HO4
    go_wp2_with (refine wpList_append_lies _ rfl (.tmp 48) (.tmp 51) 22 rfl (g + 1) 9 i0 (.string ⟨#[]⟩) 1 16 Tryd.underlying22 (unhide HI).1 (unhide HI).2.1 (unhide HI).2.2.1 (unhide HI).2.2.2 rfl (by decide) _ (k + 1) _ rfl (unhide HO5) ⟨y5.heap.size, 0, none⟩ 1 1 [.string u] rfl rfl (fun q u hu => gr_new y5 9 _ q u hu) (by simp [Value.oneCell']) (by decide) (by unfold maxLen; omega) (by omega) (by simp; omega) (y5.heap.size + 1) (by simp) ?_)
    intro g5 cap5 x5 ho5 hg5 _ _
    have HBX := hide (show Below (g + 1) y4 x5 from ((unhide HB5).alloc (by omega) _).grown hg5 (by simp; omega) (fun q hq => ((unhide HO5).lt q hq).1))
    have HN1 := hide (show x5.ownsRow (g + 1) 9 1 (.slice (some ⟨g5, 0, none⟩) (k + 1 + 1) cap5) (k + 1 + 1) ((rtsL l (k + 1)).map Value.string) from by rw [unhide HSN, List.map_append]; exact ho5)
    have HN2 := hide (show TrM x5 g (l.take (k + 1)) from (unhide HT4).below (unhide HBX) (by omega))
    have HN3 := hide (show Below h w x5 from (unhide HB4).trans ((unhide HBX).mono (by omega)))
    clear ho5 hg5 HO5 HB5 HB4 HT4 HBX
    go_wp2
    go_roundw
    case rel => exact ⟨k + 1, by omega, by go_num, HN1, HN2, HN3⟩
    case measure => simp [intOf] <;> omega
  obtain rfl : q = k := by omega
  have e1 : ¬ (q : Int) < (q : Int) := by omega
  rw [unhide HTA] at HTR
  obtain ⟨y10, rfl⟩ : ∃ z, z = wi := ⟨_, rfl⟩
  have HBy10 := HBW
  have HRC := hide (fun (W : World) (ho : W.ownsRow (g + 1) 9 1 (.slice (some ⟨gr, 0, none⟩) (q + 1) cv) (q + 1) ((rtsL l q).map Value.string)) j (hj : j ≤ q) => own_cell (rtsL_len l q) ho j (by omega) _ (rtsL_get l q j hj))
  have HRT := hide (fun (W : World) (hW : Below h w W) (hT : TrM W g l) => troot_any l g W hT (unhide HKB W hW) (unhide HTB W hW))
  have HSZ := hide (fun (W : World) (hT : TrM W g l) => size_any g q W (by have := hT.cell; rw [unhide HLQ] at this; exact this))
  have HCG := hide (fun m (hm : m ≤ q) => cg_grT l q m (unhide HLQ) hm)
  have HCK := hide (fun i (hi : i < q) => ck_ptT l q i (unhide HLQ) hi)
  have HG9 := hide (gwL_lenT l)
  have HP9 := hide (paL_lenT l)
  have hq9 : q ≤ 4096 := by omega
  rw [unhide HLQ] at HG9 HP9
  clear HBW hgs HTS HTK HT0 HTA HR0 HLZ HI hkq
  obtain ⟨rr, hrr⟩ : ∃ z, rt l = z := ⟨_, rfl⟩
  rw [hrr] at HRT HRO HCG HCK HRRS
  clear hrr
  go_wp2_with fail
  refine (unhide HRT _ (unhide HBy10) (unhide HTR)).mono ?_
  rintro e y11 ⟨rfl, hb⟩
  have HBy11 := hide (show Below h w y11 from (unhide HBy10).trans (hb.mono (by have := (unhide HBy10).size; omega)))
  replace HOW := hide (own_bel (unhide HOW) hb)
  replace HTR := hide ((unhide HTR).below (B := y10.heap.size) hb (unhide HTR).1)
  clear hb HBy10
  go_wp2_with fail
  refine (unhide HSZ _ (unhide HTR)).mono ?_
  rintro e y ⟨rfl, hy⟩
  subst y
  go_wp2_with fail
  refine (unhide HRO _ (unhide HBy11)).mono ?_
  rintro e y12 ⟨rfl, hb⟩
  have HBy12 := hide (show Below h w y12 from (unhide HBy11).trans (hb.mono (by have := (unhide HBy11).size; omega)))
  replace HOW := hide (own_bel (unhide HOW) hb)
  clear hb HBy11
  clear HTR HRT HSZ HRO
  have f1 : IntKind.i64.wrap ((q : Int) + 1) = (q : Int) + 1 := wrapI_eq _ (by omega) (by omega)
  have HPK := hide (fun W => pick19 fr (q + 1) (by omega) (unhide HFR) W)
  rw [show (((q + 1 : Nat) : Int)) = (q : Int) + 1 from by omega] at HPK
  go_wp2_with fail
  refine (unhide HPK _).mono ?_
  rintro e y ⟨m, hm, rfl, hy⟩
  subst y
  clear HPK
  have HGE := hide (unhide HGR (m : Int))
  rw [show gwE q (m : Int) = 0 from if_pos (by omega)] at HGE
  have hcg := unhide HCG m (by omega)
  rw [if_pos hq9] at hcg
  have hgl := unhide HG9 (m : Int)
  have m1 : (m : Int) < (q : Int) + 1 := by omega
  have m2 : (m : Int) ≤ (c : Int) := by omega
  have HNM := hide (show ∀ (a : ByteArray), cgE a (m : Int) rr (q : Int) (gwL l (m : Int)) = 0 ∨ (cgE a (m : Int) rr (q : Int) (gwL l (m : Int)) = 192 ∨ a.size ≠ 32 ∨ rr.size ≠ 32) from fun a => by
    unfold cgE
    split
    · rw [if_pos (by omega)]
      split
      · exact .inl rfl
      · exact .inr (.inl rfl)
    · rename_i h9
      by_cases h8 : a.size = 32
      · exact .inr (.inr (.inr (fun h7 => h9 ⟨h8, h7⟩)))
      · exact .inr (.inr (.inl h8)))
  obtain ⟨G, hG⟩ : ∃ z, gwL l (m : Int) = z := ⟨_, rfl⟩
  rw [hG] at HGE hcg HNM hgl
  obtain ⟨nG, hnG⟩ : ∃ z, G.length = z := ⟨_, rfl⟩
  rw [hnG] at hgl
  clear hG HGR HCG HG9
  have HCC := hide (fun (a : ByteArray) (W : World) pg cg base (ho : W.ownsRow base 9 1 (.slice pg nG cg) nG (G.map Value.string)) (hW : Below h w W) => checkGrown_any a (m : Int) rr (q : Int) G nG hnG W W.heap.size cg pg (own_SB hnG ho) (Nat.le_refl _) (unhide HKB W hW) (own_ccT ho).1 (own_ccT ho).2)
  have HNG := hide hnG
  clear hnG
  go_wp2_with fail
  refine (unhide HGE _ (unhide HBy12)).mono ?_
  rintro e y13 ⟨v0, rfl, ho, hb⟩
  rw [unhide HNG] at ho
  obtain ⟨pg, cg, rfl, _⟩ := gr_form ho
  have HOGn := hide ho
  clear ho
  have HBy13 := hide (show Below h w y13 from (unhide HBy12).trans (hb.mono (by have := (unhide HBy12).size; omega)))
  replace HOW := hide (own_bel (unhide HOW) hb)
  clear hb HBy12
  have HOG := HOGn
  clear HOGn HGE
  obtain ⟨rm, hrm⟩ : ∃ z, rt (l.take m) = z := ⟨_, rfl⟩
  have HMM := hide (fun W (hW : Below h w W) => unhide HRM m (by omega) W hW)
  rw [hrm] at HMM hcg
  have HRC2 := hide (fun (W : World) ho => unhide HRC W ho m (by omega))
  rw [hrm] at HRC2
  have HCC1 := hide (fun (W : World) pg cg base ho hW => unhide HCC rm W pg cg base ho hW)
  rw [hcg] at HCC1
  have hcell := unhide HRC2 y13 (unhide HOW)
  go_wp2_with fail
  refine (unhide HCC1 _ pg cg _ (unhide HOG) (unhide HBy13)).mono ?_
  rintro e y14 ⟨rfl, hb⟩
  have HBy14 := hide (show Below h w y14 from (unhide HBy13).trans (hb.mono (by have := (unhide HBy13).size; omega)))
  replace HOW := hide (own_bel (unhide HOW) hb)
  replace HOG := hide (own_bel (unhide HOG) hb)
  clear hb HBy13
  clear hcell
  obtain ⟨AT, hAT⟩ : ∃ AT : World → Prop, AT = fun y => y.ownsRow (g + 1) 9 1 (.slice (some ⟨gr, 0, none⟩) (q + 1) cv) (q + 1) ((rtsL l q).map Value.string) ∧ (∃ B, y.ownsRow B 9 1 (.slice pg nG cg) nG (G.map Value.string)) ∧ Below h w y := ⟨_, rfl⟩
  have HAT := hide (show AT y14.drew from by rw [hAT]; exact ⟨(unhide HOW).drew, ⟨_, (unhide HOG).drew⟩, (unhide HBy14).drew⟩)
  have HA1 := hide (show ∀ y, AT y → y.cell? ⟨gr, m, none⟩ = some (.string rm) from fun y hy => by rw [hAT] at hy; exact unhide HRC2 y hy.1)
  have HA2 := hide (show ∀ y, AT y → Below h w y from fun y hy => by rw [hAT] at hy; exact hy.2.2)
  have HA3 := hide (show ∀ y z, AT y → Below y.heap.size y z → AT z from fun y z hy hz => by
    rw [hAT] at hy ⊢
    obtain ⟨i1, ⟨B, i2⟩, i3⟩ := hy
    exact ⟨own_bel i1 hz, ⟨B, own_bel i2 hz⟩, i3.trans (hz.mono (by have := i3.size; omega))⟩)
  have HA4 := hide (show ∀ y, AT y → y.ownsRow (g + 1) 9 1 (.slice (some ⟨gr, 0, none⟩) (q + 1) cv) (q + 1) ((rtsL l q).map Value.string) ∧ (∃ B, y.ownsRow B 9 1 (.slice pg nG cg) nG (G.map Value.string)) ∧ Below h w y from fun y hy => by rw [hAT] at hy; exact hy)
  clear hAT HOW HOG HBy14
  go_wp2_with fail
  refine wp_region_held_drew (S := fun W => AT W) (by kernel_rfl) (unhide HAT) ?_
  intro hS
  refine wpAnyH_takeD 0 (some 86) (.int .i64 0) rfl rfl (by kernel_rfl) (by kernel_rfl) (by kernel_rfl) (fun _ _ _ h => h) (Or.inl ⟨by rfl, fun w hSw => by have hcx := unhide HA1 w hSw; clear hSw; go_simp⟩) hS ?_
  simp only [Act.put, List.setIfInBounds_toArray, List.set_cons_zero, List.set_cons_succ]
  refine wpAnyH_takeD 1 (some 87) (.bool false) rfl rfl (by kernel_rfl) (by kernel_rfl) (by kernel_rfl) (fun _ _ _ h => h) (Or.inl ⟨by rfl, fun w hSw => by have hcx := unhide HA1 w hSw; clear hSw; go_simp⟩) hS ?_
  simp only [Act.put, List.setIfInBounds_toArray, List.set_cons_zero, List.set_cons_succ]
  refine wpAnyH_takeD 2 (some 88) (.bool false) rfl rfl (by kernel_rfl) (by kernel_rfl) (by kernel_rfl) (fun _ _ _ h => h) (Or.inl ⟨by rfl, fun w hSw => by have hcx := unhide HA1 w hSw; clear hSw; go_simp⟩) hS ?_
  simp only [Act.put, List.setIfInBounds_toArray, List.set_cons_zero, List.set_cons_succ]
  refine wpAnyH_takeD 3 (some 89) (.int .i64 0) rfl rfl (by kernel_rfl) (by kernel_rfl) (by kernel_rfl) (fun _ _ _ h => h) (Or.inl ⟨by rfl, fun w hSw => by have hcx := unhide HA1 w hSw; clear hSw; go_simp⟩) hS ?_
  simp only [Act.put, List.setIfInBounds_toArray, List.set_cons_zero, List.set_cons_succ]
  refine wpAnyH_takeD 4 (some 90) (.bool false) rfl rfl (by kernel_rfl) (by kernel_rfl) (by kernel_rfl) (fun _ _ _ h => h) (Or.inl ⟨by rfl, fun w hSw => by have hcx := unhide HA1 w hSw; clear hSw; go_simp⟩) hS ?_
  simp only [Act.put, List.setIfInBounds_toArray, List.set_cons_zero, List.set_cons_succ]
  refine wpAnyH_takeD 5 (some 91) (.bool false) rfl rfl (by kernel_rfl) (by kernel_rfl) (by kernel_rfl) (fun _ _ _ h => h) (Or.inl ⟨by rfl, fun w hSw => by have hcx := unhide HA1 w hSw; clear hSw; go_simp⟩) hS ?_
  simp only [Act.put, List.setIfInBounds_toArray, List.set_cons_zero, List.set_cons_succ]
  refine wpAnyH_takeD 6 (some 92) (.bool false) rfl rfl (by kernel_rfl) (by kernel_rfl) (by kernel_rfl) (fun _ _ _ h => h) (Or.inl ⟨by rfl, fun w hSw => by have hcx := unhide HA1 w hSw; clear hSw; go_simp⟩) hS ?_
  simp only [Act.put, List.setIfInBounds_toArray, List.set_cons_zero, List.set_cons_succ]
  refine wpAnyH_takeD 7 (some 93) (.slice (some ⟨gr, 0, none⟩) (q + 1) cv) rfl rfl (by kernel_rfl) (by kernel_rfl) (by kernel_rfl) (fun _ _ _ h => h) (Or.inl ⟨by rfl, fun w hSw => by have hcx := unhide HA1 w hSw; clear hSw; go_simp⟩) hS ?_
  simp only [Act.put, List.setIfInBounds_toArray, List.set_cons_zero, List.set_cons_succ]
  refine wpAnyH_takeD 8 (some 94) (.int .i64 (m : Int)) rfl rfl (by kernel_rfl) (by kernel_rfl) (by kernel_rfl) (fun _ _ _ h => h) (Or.inl ⟨by rfl, fun w hSw => by have hcx := unhide HA1 w hSw; clear hSw; go_simp⟩) hS ?_
  simp only [Act.put, List.setIfInBounds_toArray, List.set_cons_zero, List.set_cons_succ]
  refine wpAnyH_takeD 9 (some 95) (.pointer (some ⟨gr, m, none⟩)) rfl rfl (by kernel_rfl) (by kernel_rfl) (by kernel_rfl) (fun _ _ _ h => h) (Or.inl ⟨by rfl, fun w hSw => by have hcx := unhide HA1 w hSw; clear hSw; go_simp⟩) hS ?_
  simp only [Act.put, List.setIfInBounds_toArray, List.set_cons_zero, List.set_cons_succ]
  refine wpAnyH_takeD 10 (some 96) (.string rm) rfl rfl (by kernel_rfl) (by kernel_rfl) (by kernel_rfl) (fun _ _ _ h => h) (Or.inl ⟨by rfl, fun w hSw => by have hcx := unhide HA1 w hSw; clear hSw; go_simp⟩) hS ?_
  simp only [Act.put, List.setIfInBounds_toArray, List.set_cons_zero, List.set_cons_succ]
  refine wpAnyH_takeD 11 (some 97) (.slice p q c) rfl rfl (by kernel_rfl) (by kernel_rfl) (by kernel_rfl) (fun _ _ _ h => h) (Or.inl ⟨by rfl, fun w hSw => by have hcx := unhide HA1 w hSw; clear hSw; go_simp⟩) hS ?_
  simp only [Act.put, List.setIfInBounds_toArray, List.set_cons_zero, List.set_cons_succ]
  refine wpAnyH_takeD 12 (some 98) (.int .i64 (m : Int)) rfl rfl (by kernel_rfl) (by kernel_rfl) (by kernel_rfl) (fun _ _ _ h => h) (Or.inl ⟨by rfl, fun w hSw => by have hcx := unhide HA1 w hSw; clear hSw; go_simp⟩) hS ?_
  simp only [Act.put, List.setIfInBounds_toArray, List.set_cons_zero, List.set_cons_succ]
  refine wpAnyH_takeD 13 (some 99) (.slice p m c) rfl rfl (by kernel_rfl) (by kernel_rfl) (by kernel_rfl) (fun _ _ _ h => h) (Or.inl ⟨by rfl, fun w hSw => by clear hSw; cases p <;> go_simp⟩) hS ?_
  simp only [Act.put, List.setIfInBounds_toArray, List.set_cons_zero, List.set_cons_succ]
  refine wpAnyH_ready (rs := [14]) (by kernel_rfl) (by simp) ?_
  refine AllReadyH.cons rfl (fun K hK => ?_) AllReadyH.nil
  simp only [List.getElem_toArray, List.getElem_cons_succ, List.getElem_cons_zero]
  go_simp
  refine (unhide HMM _ (unhide HA2 _ hS)).mono ?_
  rintro e y20 ⟨rfl, hb⟩
  have hS9 := unhide HA3 _ _ hS hb
  clear hb
  refine hK.out _ _ hS9 (fun hS => ?_)
  clear hK K
  refine wpAnyH_takeD 15 (some 101) (.bool false) rfl rfl (by kernel_rfl) (by kernel_rfl) (by kernel_rfl) (fun _ _ _ h => h) (Or.inl ⟨by rfl, fun w hSw => by have hcx := unhide HA1 w hSw; clear hSw; go_simp⟩) hS ?_
  simp only [Act.put, List.setIfInBounds_toArray, List.set_cons_zero, List.set_cons_succ]
  refine wpAnyH_takeD 16 (some 102) (.bool false) rfl rfl (by kernel_rfl) (by kernel_rfl) (by kernel_rfl) (fun _ _ _ h => h) (Or.inl ⟨by rfl, fun w hSw => by have hcx := unhide HA1 w hSw; clear hSw; go_simp⟩) hS ?_
  simp only [Act.put, List.setIfInBounds_toArray, List.set_cons_zero, List.set_cons_succ]
  refine wpAnyH_done (by kernel_rfl) ?_ _
  have H4 := unhide HA4 _ hS
  obtain ⟨i1, ⟨B7, i2⟩, i3⟩ := H4
  have HOW := hide i1
  have HOG := hide i2
  have HBy20 := hide i3
  clear i1 i2 i3 hS HAT HA1 HA2 HA3 HA4 HMM HRM HCC1 hS9
  by_cases hq0 : q = 0
  · subst hq0
    go_wp2
    go_ret
    exact ⟨rfl, unhide HBy20⟩
  have b0 : ((q : Int) == 0) = false := by simp; omega
  have HPK := hide (fun W => pick19 at9 q (by omega) (unhide HAT9) W)
  go_wp2_with fail
  refine (unhide HPK _).mono ?_
  rintro e y ⟨i, hi, rfl, hy⟩
  subst y
  clear HPK
  have HPE := hide (unhide HPA (i : Int))
  rw [show paE q (i : Int) = 0 from if_pos (by omega), show paL l (i : Int) = pt l i from by rw [paL, if_pos (by rw [unhide HLQ]; omega), Int.toNat_natCast]] at HPE
  have hck := unhide HCK i hi
  rw [if_pos hq9] at hck
  have i1 : (i : Int) < (q : Int) := by omega
  have i2 : (i : Int) < (q : Int) + 1 := by omega
  obtain ⟨gp, op, rfl, _, _⟩ := unhide HSB y20 (unhide HBy20) i (by rw [unhide HLQ]; exact hi)
  have hli := unhide HLZ2 i (by rw [unhide HLQ]; exact hi)
  have HCI := hide (show ∀ W, Below h w W → W.cell? ⟨gp, op + i, none⟩ = some (.string (l.getD i ⟨#[]⟩)) from fun W hW => by
    obtain ⟨g2, o2, e, _, hc2⟩ := unhide HSB W hW i (by rw [unhide HLQ]; exact hi)
    injection e with e
    injection e with e1 e2
    subst e1 e2
    exact hc2)
  generalize l.getD i ⟨#[]⟩ = li at *
  obtain ⟨P, hP⟩ : ∃ z, pt l i = z := ⟨_, rfl⟩
  rw [hP] at HPE hck
  obtain ⟨nP, hnP⟩ : ∃ z, P.length = z := ⟨_, rfl⟩
  have HCH := hide (fun (W : World) pp cp base (ho : W.ownsRow base 9 1 (.slice pp nP cp) nP (P.map Value.string)) (hW : Below h w W) => check_any rr (q : Int) (i : Int) li (by omega) P nP hnP W W.heap.size cp pp (own_SB hnP ho) (Nat.le_refl _) (unhide HKB W hW) (own_ccT ho).1 (own_ccT ho).2)
  rw [hck] at HCH
  have HNP := hide hnP
  clear hP hnP hck HPA HP9 HCK
  go_wp2_with fail
  refine (unhide HPE _ (unhide HBy20)).mono ?_
  rintro e y21 ⟨v0, rfl, ho, hb⟩
  rw [unhide HNP] at ho
  obtain ⟨pp, cp, rfl, _⟩ := gr_form ho
  have HOPn := hide ho
  clear ho
  have HBy21 := hide (show Below h w y21 from (unhide HBy20).trans (hb.mono (by have := (unhide HBy20).size; omega)))
  replace HOW := hide (own_bel (unhide HOW) hb)
  replace HOG := hide (own_bel (unhide HOG) hb)
  clear hb HBy20
  have HOP := HOPn
  clear HOPn HPE
  have hci := unhide HCI y21 (unhide HBy21)
  go_wp2_with fail
  refine (unhide HCH _ pp cp _ (unhide HOP) (unhide HBy21)).mono ?_
  rintro e y22 ⟨rfl, hb⟩
  have HBy22 := hide (show Below h w y22 from (unhide HBy21).trans (hb.mono (by have := (unhide HBy21).size; omega)))
  replace HOW := hide (own_bel (unhide HOW) hb)
  replace HOG := hide (own_bel (unhide HOG) hb)
  replace HOP := hide (own_bel (unhide HOP) hb)
  clear hb HBy21
  clear hci HOP HCH HCI
  obtain ⟨ri, hri⟩ : ∃ z, rt (l.take i) = z := ⟨_, rfl⟩
  have HRC3 := hide (fun (W : World) ho => unhide HRC W ho i (by omega))
  rw [hri] at HRC3
  have hnm := unhide HNM ri
  have hcc1 := unhide HCC ri
  have hsz1 : ri.size = 32 := by rw [← hri]; exact rt_size _
  obtain ⟨v9, hv9⟩ : ∃ z, cgE ri (m : Int) rr (q : Int) G = z := ⟨_, rfl⟩
  rw [hv9] at hnm hcc1
  have hvv : v9 = 0 ∨ (v9 = 192 ∧ (ri.toList == rm.toList) = false) := by
    rcases hnm with h9 | h9 | h9 | h9
    · exact .inl h9
    · refine .inr ⟨h9, str_ne (fun hb9 => ?_)⟩
      rw [hb9, hcg] at hv9
      omega
    · exact absurd hsz1 h9
    · exact absurd (unhide HRRS) h9
  have HCC2 := hide hcc1
  have HRCm := HRC2
  have hcell := unhide HRC3 y22 (unhide HOW)
  clear hri hnm hcc1 hcg hv9 hsz1 HNM HCC HRC
  go_wp2_with fail
  refine (unhide HCC2 _ pg cg _ (unhide HOG) (unhide HBy22)).mono ?_
  rintro e y23 ⟨rfl, hb⟩
  have HBy23 := hide (show Below h w y23 from (unhide HBy22).trans (hb.mono (by have := (unhide HBy22).size; omega)))
  replace HOW := hide (own_bel (unhide HOW) hb)
  replace HOG := hide (own_bel (unhide HOG) hb)
  clear hb HBy22
  clear hcell
  have hc1 := unhide HRC3 y23 (unhide HOW)
  have hc2 := unhide HRCm y23 (unhide HOW)
  clear HRC2 HRC3 HRCm HOW HOG HCC2
  rcases hvv with rfl | ⟨rfl, hne⟩
  · have d1 : ((0 : Int) == 0) = true := rfl
    go_wp2_with fail
    go_quiet (fail)
    go_wp2
    go_ret
    exact ⟨rfl, below_drewN (unhide HBy23) _⟩
  · have d1 : ((192 : Int) == 0) = false := rfl
    have d2 : ((192 : Int) == 192) = true := rfl
    go_wp2_with fail
    go_quiet (fail)
    go_wp2
    go_ret
    exact ⟨rfl, below_drewN (unhide HBy23) _⟩
end Go.Proofs.YtilhilglokblpaaDoor
