import Derived.Test.YtbnefbncjnfjdabDoorSrw
import Derived.Test.YtbnefbncjnfjdabDoorShp
namespace Go.Proofs.YtbnefbncjnfjdabDoor
open Go.RowKit
theorem wf_I64 {z : Int} (h : (Lit.int .i64 z).wf = true) : I64 z := by
  simpa [I64, Lit.wf, IntKind.min, IntKind.max, IntKind.signed, IntKind.bits] using h
theorem laidB_twice (k : ByteArray) (f : Nat) (s : ByteArray) : laidB k f (laidB k f s) = s := by
  apply nums_inj2
  rw [nums_laidB, laidB_size, nums_laidB, laid_laid _ _ (nums_bytes s) (partP_bytes _ _ _)]
/-- What is sealed is opened. -/
theorem open_sealed (d p : ByteArray) (hd : d.size = 32) (hp : p.size = 256) : errK d p = 0 ∧ keyB d p = macB d p ∧ chunkB d p = laidB (macB d p) 0 p ∧ (chunkB d p).size = 256 ∧ errO d (keyB d p) (chunkB d p) = 0 ∧ openB d (keyB d p) (chunkB d p) = p := by
  have he : errK d p = 0 := errK_zero.2 ⟨hd, hp⟩
  have hk : keyB d p = macB d p := by rw [keyB, if_pos he]
  have hc : chunkB d p = laidB (macB d p) 0 p := by rw [chunkB, if_pos he]
  have hz : (chunkB d p).size = 256 := by rw [hc, laidB_size, hp]
  have ho : errO d (keyB d p) (chunkB d p) = 0 := errO_0 hd (by rw [hk, macB_size]) hz (by rw [hk, hc, laidB_twice])
  exact ⟨he, hk, hc, hz, ho, by rw [openB_yes ho, hk, hc, laidB_twice]⟩
set_option maxRecDepth 100000 in
set_option maxHeartbeats 1000000 in
theorem opens_walk (domain key cipher raw : ByteArray) (sd : domain.size ≤ 140737488351232) (sr : raw.size ≤ 140737488351232) (w : World) (hK : KTab w) :
    Calls Tryd.prog 3 #[.string domain, .string key, .string cipher, .string raw] w fun e w' => e = .returned (.bool true) ∧ Below w.heap.size w w' := by
  have zd := shapB_size domain 32
  have zp := shapB_size raw 256
  have S3 := hide (fun W => shaped_any domain 32 (by omega) (by omega) W)
  have S4 := hide (fun W => shaped_any raw 256 (by omega) (by omega) W)
  have S1 := hide (fun W (hW : KTab W) => open_any domain key cipher W hW)
  have S2 := hide (fun W => ropen_any domain key cipher W)
  generalize openB domain key cipher = po at *
  generalize errO domain key cipher = eo at *
  generalize shapB domain 32 = d at *
  generalize shapB raw 256 = p at *
  obtain ⟨he, hk, hc, hz, ho, hq⟩ := open_sealed d p zd zp
  have S5 := hide (fun W (hW : KTab W) => seal_any d p W hW)
  have S6 := hide (fun W (hW : KTab W) => open_any d (keyB d p) (chunkB d p) W hW)
  have S7 := hide (fun W (hW : KTab W) => open_any domain (keyB d p) (chunkB d p) W hW)
  have S8 := hide (fun W => ropen_any domain (keyB d p) (chunkB d p) W)
  rw [he] at S5
  rw [ho, hq] at S6
  clear he hk hc hz ho hq sd sr
  generalize openB domain (keyB d p) (chunkB d p) = p2 at *
  generalize errO domain (keyB d p) (chunkB d p) = e2 at *
  generalize keyB d p = k at *
  generalize chunkB d p = c at *
  have H0 := hide (fun W (hW : KTab W) => awake_any W hW)
  have H1 := hide (fun W (hW : KTab W) => unhide S1 W hW)
  have H2 := hide (fun W => unhide S2 W)
  have H3 := hide (fun W => unhide S3 W)
  have H4 := hide (fun W => unhide S4 W)
  have H5 := hide (fun W (hW : KTab W) => unhide S5 W hW)
  have H6 := hide (fun W (hW : KTab W) => unhide S6 W hW)
  have H7 := hide (fun W (hW : KTab W) => unhide S7 W hW)
  have H8 := hide (fun W => unhide S8 W)
  have HK := hide hK
  have B0 := hide (Below.refl w.heap.size w)
  clear hK S1 S2 S3 S4 S5 S6 S7 S8
  go_enter Tryd.func3, Tryd.ntmps3
  go_wp2_with fail
  refine (unhide H0 _ ((unhide HK).below (unhide B0) (unhide HK).1)).mono ?_
  rintro e w1 ⟨rfl, hB⟩
  have B1 := hide ((unhide B0).trans (hB.mono (unhide B0).size))
  clear hB B0 H0
  go_wp2_with fail
  refine (unhide H1 _ ((unhide HK).below (unhide B1) (unhide HK).1)).mono ?_
  rintro e w2 ⟨rfl, hB⟩
  have B2 := hide ((unhide B1).trans (hB.mono (unhide B1).size))
  clear hB B1 H1
  go_wp2_with fail
  refine (unhide H2 _).mono ?_
  rintro e w3 ⟨rfl, hB⟩
  have B3 := hide ((unhide B2).trans (hB.mono (unhide B2).size))
  clear hB B2 H2
  go_wp2_with fail
  refine (unhide H3 _).mono ?_
  rintro e w4 ⟨rfl, hB⟩
  have B4 := hide ((unhide B3).trans (hB.mono (unhide B3).size))
  clear hB B3 H3
  go_wp2_with fail
  refine (unhide H4 _).mono ?_
  rintro e w5 ⟨rfl, hB⟩
  have B5 := hide ((unhide B4).trans (hB.mono (unhide B4).size))
  clear hB B4 H4
  go_wp2_with fail
  refine (unhide H5 _ ((unhide HK).below (unhide B5) (unhide HK).1)).mono ?_
  rintro e w6 ⟨rfl, hB⟩
  have B6 := hide ((unhide B5).trans (hB.mono (unhide B5).size))
  clear hB B5 H5
  go_wp2_with fail
  refine (unhide H6 _ ((unhide HK).below (unhide B6) (unhide HK).1)).mono ?_
  rintro e w7 ⟨rfl, hB⟩
  have B7 := hide ((unhide B6).trans (hB.mono (unhide B6).size))
  clear hB B6 H6
  go_wp2_with fail
  refine (unhide H7 _ ((unhide HK).below (unhide B7) (unhide HK).1)).mono ?_
  rintro e w8 ⟨rfl, hB⟩
  have B8 := hide ((unhide B7).trans (hB.mono (unhide B7).size))
  clear hB B7 H7
  go_wp2_with fail
  refine (unhide H8 _).mono ?_
  rintro e w9 ⟨rfl, hB⟩
  have B9 := hide ((unhide B8).trans (hB.mono (unhide B8).size))
  clear hB B8 H8
  go_wp2
  go_ret
  exact ⟨rfl, unhide B9⟩
set_option maxRecDepth 100000 in
set_option maxHeartbeats 1000000 in
theorem wraps_walk (m : ByteArray) (v b : Int) (k s : ByteArray) (w : World) (hK : KTab w) :
    Calls Tryd.prog 4 #[.string m, .int .i64 v, .int .i64 b, .string k, .string s] w fun e w' => e = .returned (.bool true) ∧ Below w.heap.size w w' := by
  have H0 := hide (fun W (hW : KTab W) => awake_any W hW)
  have H1 := hide (fun W (hW : KTab W) => wrap_any m v b k W hW)
  have H2 := hide (fun W => rwrap_any m v b k W)
  have H3 := hide (fun W (hW : KTab W) => unwrap_any m v b s W hW)
  have H4 := hide (fun W => runwrap_any m v b s W)
  have HK := hide hK
  have B0 := hide (Below.refl w.heap.size w)
  clear hK
  generalize wrapB m v b k = x at *
  generalize errW m v b k = E at *
  generalize unwrapB m v b s = u at *
  generalize errU m v b s = G at *
  go_enter Tryd.func4, Tryd.ntmps4
  go_wp2_with fail
  refine (unhide H0 _ ((unhide HK).below (unhide B0) (unhide HK).1)).mono ?_
  rintro e w1 ⟨rfl, hB⟩
  have B1 := hide ((unhide B0).trans (hB.mono (unhide B0).size))
  clear hB B0 H0
  go_wp2_with fail
  refine (unhide H1 _ ((unhide HK).below (unhide B1) (unhide HK).1)).mono ?_
  rintro e w2 ⟨rfl, hB⟩
  have B2 := hide ((unhide B1).trans (hB.mono (unhide B1).size))
  clear hB B1 H1
  go_wp2_with fail
  refine (unhide H2 _).mono ?_
  rintro e w3 ⟨rfl, hB⟩
  have B3 := hide ((unhide B2).trans (hB.mono (unhide B2).size))
  clear hB B2 H2
  go_wp2_with fail
  refine (unhide H3 _ ((unhide HK).below (unhide B3) (unhide HK).1)).mono ?_
  rintro e w4 ⟨rfl, hB⟩
  have B4 := hide ((unhide B3).trans (hB.mono (unhide B3).size))
  clear hB B3 H3
  go_wp2_with fail
  refine (unhide H4 _).mono ?_
  rintro e w5 ⟨rfl, hB⟩
  have B5 := hide ((unhide B4).trans (hB.mono (unhide B4).size))
  clear hB B4 H4
  go_wp2
  go_ret
  exact ⟨rfl, unhide B5⟩
end Go.Proofs.YtbnefbncjnfjdabDoor
