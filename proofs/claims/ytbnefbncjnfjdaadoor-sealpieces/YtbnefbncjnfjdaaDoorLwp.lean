import Derived.Test.YtbnefbncjnfjdaaDoorLws
import Derived.Test.YtbnefbncjnfjdaaDoorLwa
namespace Go.Proofs.YtbnefbncjnfjdaaDoor
open Go.RowKit
theorem stream_nat (key : ByteArray) (f n : Nat) (hk : key.size = 32) (hfn : f + n ≤ 65536) (w : World) (hK : KTab w) :
    Calls Tryd.prog 12 #[.string key, .int .i64 (f : Int), .int .i64 (n : Int)] w fun e w' => e = .returned (.tuple #[.string (strOfNums (partP (nums key) f n)), .int .i64 0]) ∧ Below w.heap.size w w' := by
  have he : errP key (f : Int) (n : Int) = 0 := errP_zero.2 ⟨hk, by omega, by omega, by omega⟩
  have h := stream_any key (f : Int) (n : Int) ⟨by omega, by omega⟩ ⟨by omega, by omega⟩ w hK
  rw [he, show streamB key (f : Int) (n : Int) = strOfNums (partP (nums key) f n) by rw [streamB, if_pos he]; rfl] at h
  exact h
theorem xor_nat (key : ByteArray) (f : Nat) (s : ByteArray) (hk : key.size = 32) (hfn : f + s.size ≤ 65536) (w : World) (hK : KTab w) :
    Calls Tryd.prog 13 #[.string key, .int .i64 (f : Int), .string s] w fun e w' => e = .returned (.tuple #[.string (laidB key f s), .int .i64 0]) ∧ Below w.heap.size w w' := by
  have he : errP key (f : Int) (s.size : Int) = 0 := errP_zero.2 ⟨hk, by omega, by omega, by omega⟩
  have h := xor_any key (f : Int) s ⟨by omega, by omega⟩ (by omega) w hK
  rw [he, show xorB key (f : Int) s = laidB key f s by rw [xorB, if_pos he]; rfl] at h
  exact h
/-- Parts of a stream, one behind the other. -/
theorem parts_step (K : List Int) (f N D r : Nat) (h : D + r ≤ N) : (strOfNums (partP K f N)).extract 0 D ++ strOfNums (partP K (f + D) r) = (strOfNums (partP K f N)).extract 0 (D + r) := by
  apply nums_inj2
  rw [nums_app, nums_ext, nums_ext, nums_strOfNums _ (partP_bytes _ _ _), nums_strOfNums _ (partP_bytes _ _ _), List.drop_zero, Nat.sub_zero, Nat.sub_zero, partP_take _ _ _ _ (by omega), partP_take _ _ _ _ h, partP_add]
theorem laid_cut (K t : List Int) (f D r : Nat) (h : D + r ≤ t.length) : ((laidP t (partP K f t.length)).drop D).take r = laidP ((t.drop D).take r) (partP K (f + D) r) := by
  have hl1 : (((laidP t (partP K f t.length)).drop D).take r).length = r := by rw [List.length_take, List.length_drop, laidP_len]; omega
  have hl3 : ((t.drop D).take r).length = r := by rw [List.length_take, List.length_drop]; omega
  have hl2 : (laidP ((t.drop D).take r) (partP K (f + D) r)).length = r := by rw [laidP_len, hl3]
  apply List.ext_getElem?
  intro j
  by_cases hj : j < r
  · have h1 := laidP_getD t (partP K f t.length) (D + j) (by omega)
    have h2 := laidP_getD ((t.drop D).take r) (partP K (f + D) r) j (by omega)
    rw [partP_getD _ _ _ _ (by omega)] at h1
    rw [partP_getD _ _ _ _ hj, Nat.add_assoc] at h2
    have h3 : ((t.drop D).take r).getD j 0 = t.getD (D + j) 0 := by
      rw [List.getD_eq_getElem?_getD, List.getElem?_take, if_pos hj, List.getElem?_drop, ← List.getD_eq_getElem?_getD]
    rw [h3, ← h1] at h2
    rw [List.getElem?_take, if_pos hj, List.getElem?_drop]
    rw [List.getD_eq_getElem?_getD, List.getD_eq_getElem?_getD, List.getElem?_eq_getElem (by omega), List.getElem?_eq_getElem (by rw [laidP_len]; omega)] at h2
    simp only [Option.getD_some] at h2
    rw [List.getElem?_eq_getElem (by rw [laidP_len]; omega), List.getElem?_eq_getElem (by omega), h2]
  · rw [List.getElem?_eq_none (by omega), List.getElem?_eq_none (by omega)]
theorem laid_step (key : ByteArray) (f : Nat) (T : ByteArray) (D r : Nat) (h : D + r ≤ T.size) : (laidB key f T).extract 0 D ++ laidB key (f + D) (T.extract D (D + r)) = (laidB key f T).extract 0 (D + r) := by
  apply nums_inj2
  have hz : (T.extract D (D + r)).size = r := by rw [ByteArray.size_extract]; omega
  have hl := laid_cut (nums key) (nums T) f D r (by rw [nums_len]; exact h)
  rw [nums_len] at hl
  rw [nums_app, nums_ext, nums_ext, nums_laidB, nums_laidB, hz, nums_ext, List.drop_zero, Nat.sub_zero, Nat.sub_zero, Nat.add_sub_cancel_left, ← hl, List.take_add]
theorem once_byte (key : ByteArray) (f : Nat) (T : ByteArray) (i : Nat) (h : i < T.size) : (nums (laidB key f T)).getD i 0 = bits .xor .u8 ((nums T).getD i 0) ((nums (strOfNums (partP (nums key) f T.size))).getD i 0) := by
  rw [nums_laidB, nums_strOfNums _ (partP_bytes _ _ _), laidP_getD _ _ _ (by rw [nums_len]; exact h)]
theorem ext_zero (t : ByteArray) : t.extract 0 0 = ⟨#[]⟩ := by
  apply nums_inj2
  rw [nums_ext]
  rfl
set_option maxRecDepth 100000 in
set_option maxHeartbeats 4000000 in
theorem pieces_walk (raw : ByteArray) (from_ : Int) (ao : Option Addr) (len cap : Nat) (zs : List Int) (text : ByteArray) (sr : raw.size ≤ 140737488351232) (st : text.size ≤ 140737488351232) (hf : I64 from_) (w : World) (hK : KTab w) (hlen : len ≤ 140737488351232)
    (hcell : ∀ i, i < len → ∃ b off, ao = some ⟨b, off, none⟩ ∧ w.cell? ⟨b, off + i, none⟩ = some (.int .i64 (zs.getD i 0))) (hwf : ∀ i, i < len → (Lit.int .i64 (zs.getD i 0)).wf = true) :
    Calls Tryd.prog 3 #[.string raw, .int .i64 from_, .slice ao len cap, .string text] w fun e w' => e = .returned (.bool true) ∧ Below w.heap.size w w' := by
  have HK := hide hK
  have HC := hide hcell
  have HW := hide hwf
  have zk := shapB_size raw 32
  have la := pickP_lt from_ 60000 (by omega)
  have H0 := hide (awake_any w hK)
  have H1 := hide (fun W => shaped_any raw 32 (by omega) (by omega) W)
  have H2 := hide (fun W => pick2_any from_ 60000 (by omega) hf W)
  generalize shapB raw 32 = key at *
  generalize pickP from_ 60000 = a at *
  clear hK hcell hwf hf sr
  go_enter Tryd.func3, Tryd.ntmps3
  go_wp2_with fail
  refine (unhide H0).mono ?_
  rintro e w1 ⟨rfl, hB⟩
  have B1 := hide hB
  clear hB H0
  go_wp2_with fail
  refine (unhide H1 _).mono ?_
  rintro e w2 ⟨rfl, hB⟩
  have B2 := hide ((unhide B1).trans (hB.mono (unhide B1).size))
  clear hB H1 B1
  rcases Nat.lt_or_ge 3000 text.size with hbig | hsml
  case' inl =>
    have hb2 : (3000 : Int) < (text.size : Int) := by omega
    have hT : (text.extract 0 3000).size ≤ 3000 := by rw [ByteArray.size_extract]; omega
    go_wp2_with fail
    generalize text.extract 0 3000 = T at *
    clear hb2 hbig st
  case' inr =>
    have hb2 : ¬ (3000 : Int) < (text.size : Int) := by omega
    have hT : text.size ≤ 3000 := hsml
    go_wp2_with fail
    generalize text = T at *
    clear hb2 hsml st
  all_goals
    refine (unhide H2 _).mono ?_
    rintro e w3 ⟨rfl, rfl⟩
    have H3 := hide (stream_nat key a T.size zk (by omega) w3 ((unhide HK).below (unhide B2) (unhide HK).1))
    have H4 := hide (fun W (hW : KTab W) => xor_nat key a T zk (by omega) W hW)
    have zo := laidB_size key a T
    have H5 := hide (fun W (hW : KTab W) => xor_nat key a (laidB key a T) zk (by omega) W hW)
    rw [laidB_twice] at H5
    have zw : (strOfNums (partP (nums key) a T.size)).size = T.size := by rw [← nums_len, nums_strOfNums _ (partP_bytes _ _ _), partP_len]
    have OB := hide (fun i (hi : i < T.size) => once_byte key a T i hi)
    have PS := hide (fun D r (h : D + r ≤ T.size) => parts_step (nums key) a T.size D r h)
    have LS := hide (fun D r (h : D + r ≤ T.size) => laid_step key a T D r h)
    obtain ⟨wh, hwh⟩ : ∃ wh, strOfNums (partP (nums key) a T.size) = wh := ⟨_, rfl⟩
    obtain ⟨on, hon⟩ : ∃ on, laidB key a T = on := ⟨_, rfl⟩
    rw [hwh] at H3 zw OB PS
    rw [hon] at H4 H5 zo OB LS
    clear hwh hon
    go_wp2_with fail
    refine (unhide H3).mono ?_
    rintro e w4 ⟨rfl, hB⟩
    have B3 := hide ((unhide B2).trans (hB.mono (unhide B2).size))
    clear hB H3 B2
    go_wp2_with fail
    refine (unhide H4 _ ((unhide HK).below (unhide B3) (unhide HK).1)).mono ?_
    rintro e w5 ⟨rfl, hB⟩
    have B4 := hide ((unhide B3).trans (hB.mono (unhide B3).size))
    clear hB H4 B3
    go_wp2_with fail
    refine (unhide H5 _ ((unhide HK).below (unhide B4) (unhide HK).1)).mono ?_
    rintro e w6 ⟨rfl, hB⟩
    have B5 := hide ((unhide B4).trans (hB.mono (unhide B4).size))
    clear hB H5 B4 H2
    go_wp2
    go_loopw [18, 19, 20, 21] (fun p l dn i wr => ∃ (k D : Nat), k ≤ 20 ∧ k ≤ len ∧ D ≤ T.size ∧ i = .int .i64 (k : Int) ∧ dn = .int .i64 (D : Int) ∧ p = .string (wh.extract 0 D) ∧ l = .string (on.extract 0 D) ∧ Hid (Below w.heap.size w wr)) (fun _ _ _ i _ => 20 - (intOf i).toNat)
    case atStart => exact ⟨0, 0, by omega, by omega, by omega, rfl, rfl, by rw [ext_zero], by rw [ext_zero], B5⟩
    case round =>
      obtain ⟨k, D, hk20, hkl, hD, rfl, rfl, rfl, rfl, HB⟩ := hrel
      by_cases hgo : k < len ∧ k < 20 ∧ D < T.size
      · obtain ⟨g1, g2, g3⟩ := hgo
        have g1' : (k : Int) < (len : Int) := by omega
        have g2' : (k : Int) < 20 := by omega
        have g3' : (D : Int) < (T.size : Int) := by omega
        obtain ⟨b, off, hao, hc⟩ := unhide HC k g1
        subst hao
        have c1 : wr.cell? ⟨b, off + k, none⟩ = some (.int .i64 (zs.getD k 0)) := by
          rw [(unhide HB).cell (p := ⟨b, off + k, none⟩) (World.block_lt_of_cell? w _ hc)]
          exact hc
        have hw := wf_I64 (unhide HW k g1)
        obtain ⟨z, hz⟩ : ∃ z, z = zs.getD k 0 := ⟨_, rfl⟩
        rw [← hz] at c1 hw
        have lr := pickP_lt z (T.size - D + 1) (by omega)
        have HPK := hide (fun W => pick2_any z (T.size - D + 1) (by omega) hw W)
        rw [show (((T.size - D + 1 : Nat)) : Int) = (T.size : Int) - (D : Int) + 1 by omega] at HPK
        generalize pickP z (T.size - D + 1) = r at *
        have H6 := hide (fun W (hW : KTab W) => stream_nat key (a + D) r zk (by omega) W hW)
        have zx : (T.extract D (D + r)).size = r := by rw [ByteArray.size_extract]; omega
        have H7 := hide (fun W (hW : KTab W) => xor_nat key (a + D) (T.extract D (D + r)) zk (by omega) W hW)
        simp only [Int.natCast_add] at H6 H7
        have hps := unhide PS D r (by omega)
        have hls := unhide LS D r (by omega)
        have z1 : (wh.extract 0 D).size = D := by rw [ByteArray.size_extract]; omega
        have z2 : (strOfNums (partP (nums key) (a + D) r)).size = r := by rw [← nums_len, nums_strOfNums _ (partP_bytes _ _ _), partP_len]
        have z3 : (on.extract 0 D).size = D := by rw [ByteArray.size_extract]; omega
        have z4 : (laidB key (a + D) (T.extract D (D + r))).size = r := by rw [laidB_size, zx]
        have hadd : ¬ 9223372036854775807 < D + r := by omega
        generalize strOfNums (partP (nums key) (a + D) r) = sr at *
        generalize laidB key (a + D) (T.extract D (D + r)) = tr at *
        have HPS := hide hps
        have HLS := hide hls
        clear hz hc hps hls hw
        go_wp2_with fail
        refine (unhide HPK _).mono ?_
        rintro e wa ⟨rfl, rfl⟩
        clear HPK
        go_wp2_with fail
        refine (unhide H6 _ ((unhide HK).below (unhide HB) (unhide HK).1)).mono ?_
        rintro e wb ⟨rfl, hB⟩
        have C1 := hide ((unhide HB).trans (hB.mono (unhide HB).size))
        clear hB H6 HB c1
        go_wp2_with fail
        refine (unhide H7 _ ((unhide HK).below (unhide C1) (unhide HK).1)).mono ?_
        rintro e wc ⟨rfl, hB⟩
        have C2 := hide ((unhide C1).trans (hB.mono (unhide C1).size))
        clear hB H7 C1
        go_wp2
        go_roundw
        case rel => exact ⟨k + 1, D + r, by omega, by omega, by omega, by go_num, by go_num, by rw [unhide HPS], by rw [unhide HLS], C2⟩
        case measure => simp [intOf]; omega
      · have hcs : (¬ k < len) ∨ (k < len ∧ ¬ k < 20) ∨ (k < len ∧ k < 20 ∧ ¬ D < T.size) := by omega
        have Z1 := hide (show (wh.extract 0 D).size = D by rw [ByteArray.size_extract]; omega)
        clear hgo B5 PS LS HC HW
        rcases hcs with g1 | ⟨g1, g2⟩ | ⟨g1, g2, g3⟩
        case' inl =>
          have g1' : ¬ (k : Int) < (len : Int) := by omega
          go_wp2
        case' inr.inl =>
          have g1' : (k : Int) < (len : Int) := by omega
          have g2' : ¬ (k : Int) < 20 := by omega
          go_wp2
        case' inr.inr =>
          have g1' : (k : Int) < (len : Int) := by omega
          have g2' : (k : Int) < 20 := by omega
          have g3' : ¬ (D : Int) < (T.size : Int) := by omega
          go_wp2
        all_goals
          obtain ⟨wo, rfl⟩ : ∃ wo, wo = wr := ⟨_, rfl⟩
          go_loopw [27] (fun i wr => ∃ t : Nat, t ≤ T.size ∧ i = .int .i64 (t : Int) ∧ Hid (Below w.heap.size w wr)) (fun i _ => T.size - (intOf i).toNat)
          case atStart => exact ⟨0, by omega, rfl, HB⟩
          case round =>
            obtain ⟨t, ht, rfl, HB2⟩ := hrel
            by_cases htl : t < T.size
            · have htl2 : (t : Int) < (T.size : Int) := by omega
              have i1 := fun W => index_str T t htl W
              have i2 := fun W => index_str wh t (by omega) W
              have i3 := fun W => index_str on t (by omega) W
              have hob := unhide OB t htl
              rw [hob] at i3
              clear hob
              generalize (nums T).getD t 0 = x at *
              generalize (nums wh).getD t 0 = y at *
              have hne : (bits .xor .u8 x y != bits .xor .u8 x y) = false := by simp
              go_wp2
              go_quiet (fail)
              go_wp2
              go_roundw
              case rel => exact ⟨t + 1, by omega, by go_num, below_drewN (unhide HB2) _⟩
              case measure => simp [intOf]; omega
            · have htl2 : ¬ (t : Int) < (T.size : Int) := by omega
              go_wp2
              go_ret
              exact ⟨rfl, unhide HB2⟩
end Go.Proofs.YtbnefbncjnfjdaaDoor
