import Derived.Test.YtbnefbncjnfjdaaDoorSwq
import Derived.Test.YtbnefbncjnfjdaaDoorSpk
namespace Go.Proofs.YtbnefbncjnfjdaaDoor
open Go.RowKit
theorem nums_inj2 {s t : ByteArray} (h : nums s = nums t) : s = t := by
  rw [← strOfNums_nums s, ← strOfNums_nums t, h]
theorem nums_ext (t : ByteArray) (a b : Nat) : nums (t.extract a b) = ((nums t).drop a).take (b - a) := by
  simp [nums, ByteArray.data_extract, List.extract_eq_take_drop]
theorem laidB_twice (k : ByteArray) (f : Nat) (s : ByteArray) : laidB k f (laidB k f s) = s := by
  apply nums_inj2
  rw [nums_laidB, laidB_size, nums_laidB, laid_laid _ _ (nums_bytes s) (partP_bytes _ _ _)]
theorem ext_left (a b : ByteArray) (n : Nat) (h : a.size = n) : (a ++ b).extract 0 n = a := by
  apply nums_inj2
  rw [nums_ext, nums_app, List.drop_zero, Nat.sub_zero, List.take_append_of_le_length (by rw [nums_len]; omega), List.take_of_length_le (by rw [nums_len]; omega)]
theorem ext_right (a b : ByteArray) (n m : Nat) (h : a.size = n) (h2 : n + b.size = m) : (a ++ b).extract n m = b := by
  apply nums_inj2
  have e : n = (nums a).length := by rw [nums_len, h]
  rw [nums_ext, nums_app, e, List.drop_left, List.take_of_length_le (by rw [nums_len, ← e]; omega)]
/-- What is sealed is opened. -/
theorem open_sealed (d p : ByteArray) (hd : d.size = 32) (hp : p.size = 256) : errK d p = 0 ∧ keyB d p = macB d p ∧ chunkB d p = laidB (macB d p) 0 p ∧ (chunkB d p).size = 256 ∧ errO d (keyB d p) (chunkB d p) = 0 ∧ openB d (keyB d p) (chunkB d p) = p := by
  have he : errK d p = 0 := errK_zero.2 ⟨hd, hp⟩
  have hk : keyB d p = macB d p := by rw [keyB, if_pos he]
  have hc : chunkB d p = laidB (macB d p) 0 p := by rw [chunkB, if_pos he]
  have hz : (chunkB d p).size = 256 := by rw [hc, laidB_size, hp]
  have ho : errO d (keyB d p) (chunkB d p) = 0 := errO_0 hd (by rw [hk, macB_size]) hz (by rw [hk, hc, laidB_twice])
  exact ⟨he, hk, hc, hz, ho, by rw [openB_yes ho, hk, hc, laidB_twice]⟩
/-- What is wrapped is unwrapped. -/
theorem unwrap_wrapped (m : ByteArray) (v b : Int) (k : ByteArray) (hm : m.size = 32) (hk : k.size = 32) (hp : plc v b = true) : errW m v b k = 0 ∧ (wrapB m v b k).size = 48 ∧ errU m v b (wrapB m v b k) = 0 ∧ unwrapB m v b (wrapB m v b k) = k := by
  have he : errW m v b k = 0 := errW_0 ⟨hm, hk⟩ hp
  have hw := wrapB_yes he
  have zl : (laidB (secB m v b) 0 k).size = 32 := by rw [laidB_size, hk]
  have zt := tagB_size (secB m v b) (laidB (secB m v b) 0 k)
  have hz : (wrapB m v b k).size = 48 := by rw [hw, ByteArray.size_append, zl, zt]
  have h1 : (wrapB m v b k).extract 0 32 = laidB (secB m v b) 0 k := by rw [hw]; exact ext_left _ _ 32 zl
  have h2 : (wrapB m v b k).extract 32 48 = tagB (secB m v b) (laidB (secB m v b) 0 k) := by rw [hw]; exact ext_right _ _ 32 48 zl (by rw [zt])
  have hu : errU m v b (wrapB m v b k) = 0 := errU_0 hm hp hz (by rw [h1, h2])
  exact ⟨he, hz, hu, by rw [unwrapB_yes hu, h1, laidB_twice]⟩
theorem pick2_below (c : Int) (n : Nat) (hn : 0 < n) (hc : I64 c) (w : World) :
    Calls Tryd.prog 11 #[.int .i64 c, .int .i64 (n : Int)] w fun e w' => e = .returned (.int .i64 (pickP c n : Int)) ∧ Below w.heap.size w w' :=
  (pick2_any c n hn hc w).mono fun _ _ h => ⟨h.1, by rw [h.2]; exact Below.refl _ _⟩
set_option maxRecDepth 100000 in
set_option maxHeartbeats 1000000 in
theorem back_walk (domain plain master : ByteArray) (volume block : Int) (sd : domain.size ≤ 140737488351232) (sp : plain.size ≤ 140737488351232) (sm : master.size ≤ 140737488351232) (hv : I64 volume) (hb : I64 block) (w : World) (hK : KTab w) :
    Calls Tryd.prog 6 #[.string domain, .string plain, .string master, .int .i64 volume, .int .i64 block] w fun e w' => e = .returned (.bool true) ∧ Below w.heap.size w w' := by
  have zd := shapB_size domain 32
  have zp := shapB_size plain 256
  have zm := shapB_size master 32
  have lv := pickP_lt volume 100 (by omega)
  have lb := pickP_lt block 60 (by omega)
  have hpl : plc (pickP volume 100 : Int) (pickP block 60 : Int) = true := plc_iff.2 ⟨by omega, by omega, by omega, by omega⟩
  have S1 := hide (fun W => shaped_any domain 32 (by omega) (by omega) W)
  have S2 := hide (fun W => shaped_any plain 256 (by omega) (by omega) W)
  have S3 := hide (fun W => shaped_any master 32 (by omega) (by omega) W)
  have S4 := hide (fun W => pick2_below volume 100 (by omega) hv W)
  have S5 := hide (fun W => pick2_below block 60 (by omega) hb W)
  generalize shapB domain 32 = d at *
  generalize shapB plain 256 = p at *
  generalize shapB master 32 = m at *
  generalize pickP volume 100 = vv at *
  generalize pickP block 60 = bb at *
  obtain ⟨he, hk, hc, hz, ho, hq⟩ := open_sealed d p zd zp
  have zk : (keyB d p).size = 32 := by rw [hk, macB_size]
  obtain ⟨we, wz, wu, wk⟩ := unwrap_wrapped m (vv : Int) (bb : Int) (keyB d p) zm zk hpl
  have S6 := hide (fun W (hW : KTab W) => seal_any d p W hW)
  have S7 := hide (fun W (hW : KTab W) => open_any d (keyB d p) (chunkB d p) W hW)
  have S8 := hide (fun W (hW : KTab W) => wrap_any m (vv : Int) (bb : Int) (keyB d p) W hW)
  have S9 := hide (fun W (hW : KTab W) => unwrap_any m (vv : Int) (bb : Int) (wrapB m (vv : Int) (bb : Int) (keyB d p)) W hW)
  rw [he] at S6
  rw [ho, hq] at S7
  rw [we] at S8
  rw [wu, wk] at S9
  clear he hk hc ho hq we wu wk hpl zk hv hb sd sp sm
  generalize wrapB m (vv : Int) (bb : Int) (keyB d p) = wr at *
  generalize keyB d p = k at *
  generalize chunkB d p = c at *
  have H0 := hide (fun W (hW : KTab W) => awake_any W hW)
  have H1 := hide (fun W => unhide S1 W)
  have H2 := hide (fun W => unhide S2 W)
  have H3 := hide (fun W => unhide S3 W)
  have H4 := hide (fun W => unhide S4 W)
  have H5 := hide (fun W => unhide S5 W)
  have H6 := hide (fun W (hW : KTab W) => unhide S6 W hW)
  have H7 := hide (fun W (hW : KTab W) => unhide S7 W hW)
  have H8 := hide (fun W (hW : KTab W) => unhide S8 W hW)
  have H9 := hide (fun W (hW : KTab W) => unhide S9 W hW)
  have HK := hide hK
  have B0 := hide (Below.refl w.heap.size w)
  clear hK S1 S2 S3 S4 S5 S6 S7 S8 S9
  go_enter Tryd.func6, Tryd.ntmps6
  go_wp2_with fail
  refine (unhide H0 _ ((unhide HK).below (unhide B0) (unhide HK).1)).mono ?_
  rintro e w1 ⟨rfl, hB⟩
  have B1 := hide ((unhide B0).trans (hB.mono (unhide B0).size))
  clear hB B0 H0
  go_wp2_with fail
  refine (unhide H1 _).mono ?_
  rintro e w2 ⟨rfl, hB⟩
  have B2 := hide ((unhide B1).trans (hB.mono (unhide B1).size))
  clear hB B1 H1
  go_wp2_with fail
  refine (unhide H2 _).mono ?_
  rintro e w3 ⟨rfl, hB⟩
  have B3 := hide ((unhide B2).trans (hB.mono (unhide B2).size))
  clear hB B2 H2
  go_wp2_with fail
  refine (unhide H3 _).mono ?_
  rintro e w4 ⟨rfl, hB⟩
  have B4 := hide ((unhide B3).trans (hB.mono (unhide B3).size))
  clear hB B3 H3
  go_wp2_with fail
  refine (unhide H4 _).mono ?_
  rintro e w5 ⟨rfl, hB⟩
  have B5 := hide ((unhide B4).trans (hB.mono (unhide B4).size))
  clear hB B4 H4
  go_wp2_with fail
  refine (unhide H5 _).mono ?_
  rintro e w6 ⟨rfl, hB⟩
  have B6 := hide ((unhide B5).trans (hB.mono (unhide B5).size))
  clear hB B5 H5
  go_wp2_with fail
  refine (unhide H6 _ ((unhide HK).below (unhide B6) (unhide HK).1)).mono ?_
  rintro e w7 ⟨rfl, hB⟩
  have B7 := hide ((unhide B6).trans (hB.mono (unhide B6).size))
  clear hB B6 H6
  go_wp2_with fail
  refine (unhide H7 _ ((unhide HK).below (unhide B7) (unhide HK).1)).mono ?_
  rintro e w8 ⟨rfl, hB⟩
  have B8 := hide ((unhide B7).trans (hB.mono (unhide B7).size))
  clear hB B7 H7
  go_wp2_with fail
  refine (unhide H8 _ ((unhide HK).below (unhide B8) (unhide HK).1)).mono ?_
  rintro e w9 ⟨rfl, hB⟩
  have B9 := hide ((unhide B8).trans (hB.mono (unhide B8).size))
  clear hB B8 H8
  go_wp2_with fail
  refine (unhide H9 _ ((unhide HK).below (unhide B9) (unhide HK).1)).mono ?_
  rintro e w10 ⟨rfl, hB⟩
  have B10 := hide ((unhide B9).trans (hB.mono (unhide B9).size))
  clear hB B9 H9
  go_wp2
  go_ret
  exact ⟨rfl, unhide B10⟩
end Go.Proofs.YtbnefbncjnfjdaaDoor
