import Derived.Test.YtbnefbncjnfjdaaDoorSrg
import Derived.Test.YtbnefbncjnfjdaaDoorShp
namespace Go.Proofs.YtbnefbncjnfjdaaDoor
open Go.RowKit
theorem wf_I64 {z : Int} (h : (Lit.int .i64 z).wf = true) : I64 z := by
  simpa [I64, Lit.wf, IntKind.min, IntKind.max, IntKind.signed, IntKind.bits] using h
set_option maxRecDepth 100000 in
set_option maxHeartbeats 1000000 in
theorem streams_walk (key : ByteArray) (f n : Int) (hf : I64 f) (hn : I64 n) (w : World) (hK : KTab w) :
    Calls Tryd.prog 5 #[.string key, .int .i64 f, .int .i64 n] w fun e w' => e = .returned (.bool true) ∧ Below w.heap.size w w' := by
  have H0 := hide (fun W (hW : KTab W) => awake_any W hW)
  have H1 := hide (fun W (hW : KTab W) => stream_any key f n hf hn W hW)
  have H2 := hide (fun W => rstream_any key f n W)
  have HK := hide hK
  have B0 := hide (Below.refl w.heap.size w)
  clear hK hf hn
  generalize streamB key f n = s at *
  generalize errP key f n = E at *
  go_enter Tryd.func5, Tryd.ntmps5
  go_wp2_with fail
  refine (unhide H0 _ ((unhide HK).below (unhide B0) (unhide HK).1)).mono ?_
  rintro e w1 ⟨rfl, hB⟩
  have B1 := hide ((unhide B0).trans (hB.mono (unhide B0).size))
  clear hB B0 H0
  go_wp2_with fail
  refine (unhide H1 _ ((unhide HK).below (unhide B1) (unhide HK).1)).mono ?_
  rintro e w2 ⟨rfl, hB⟩
  have B2 := hide ((unhide B1).trans (hB.mono (unhide B1).size))
  clear hB B1 H1
  go_wp2_with fail
  refine (unhide H2 _).mono ?_
  rintro e w3 ⟨rfl, hB⟩
  have B3 := hide ((unhide B2).trans (hB.mono (unhide B2).size))
  clear hB B2 H2
  go_wp2
  go_ret
  exact ⟨rfl, unhide B3⟩
set_option maxRecDepth 100000 in
set_option maxHeartbeats 1000000 in
theorem xors_walk (key : ByteArray) (f : Int) (s : ByteArray) (hf : I64 f) (hs : s.size ≤ 140737488351232) (w : World) (hK : KTab w) :
    Calls Tryd.prog 7 #[.string key, .int .i64 f, .string s] w fun e w' => e = .returned (.bool true) ∧ Below w.heap.size w w' := by
  have H0 := hide (fun W (hW : KTab W) => awake_any W hW)
  have H1 := hide (fun W (hW : KTab W) => xor_any key f s hf (by omega) W hW)
  have H2 := hide (fun W => rxor_any key f s (by omega) W)
  have HK := hide hK
  have B0 := hide (Below.refl w.heap.size w)
  clear hK hf
  generalize xorB key f s = x at *
  generalize errP key f s.size = E at *
  go_enter Tryd.func7, Tryd.ntmps7
  go_wp2_with fail
  refine (unhide H0 _ ((unhide HK).below (unhide B0) (unhide HK).1)).mono ?_
  rintro e w1 ⟨rfl, hB⟩
  have B1 := hide ((unhide B0).trans (hB.mono (unhide B0).size))
  clear hB B0 H0
  go_wp2_with fail
  refine (unhide H1 _ ((unhide HK).below (unhide B1) (unhide HK).1)).mono ?_
  rintro e w2 ⟨rfl, hB⟩
  have B2 := hide ((unhide B1).trans (hB.mono (unhide B1).size))
  clear hB B1 H1
  go_wp2_with fail
  refine (unhide H2 _).mono ?_
  rintro e w3 ⟨rfl, hB⟩
  have B3 := hide ((unhide B2).trans (hB.mono (unhide B2).size))
  clear hB B2 H2
  go_wp2
  go_ret
  exact ⟨rfl, unhide B3⟩
set_option maxRecDepth 100000 in
set_option maxHeartbeats 1000000 in
theorem keys_walk (d p : ByteArray) (w : World) (hK : KTab w) :
    Calls Tryd.prog 8 #[.string d, .string p] w fun e w' => e = .returned (.bool true) ∧ Below w.heap.size w w' := by
  have H0 := hide (fun W (hW : KTab W) => awake_any W hW)
  have H1 := hide (fun W (hW : KTab W) => blockKey_any d p W hW)
  have H2 := hide (fun W => rblockKey_any d p W)
  have H3 := hide (fun W (hW : KTab W) => seal_any d p W hW)
  have H4 := hide (fun W => rseal_any d p W)
  have H5 := hide (fun W (hW : KTab W) => digest2_any p W hW)
  have H6 := hide (fun W => rdigest2_any p W)
  have HK := hide hK
  have B0 := hide (Below.refl w.heap.size w)
  clear hK
  generalize keyB d p = k at *
  generalize errK d p = E at *
  generalize chunkB d p = c at *
  generalize digB p = g at *
  generalize errD p = D at *
  go_enter Tryd.func8, Tryd.ntmps8
  go_wp2_with fail
  refine (unhide H0 _ ((unhide HK).below (unhide B0) (unhide HK).1)).mono ?_
  rintro e w1 ⟨rfl, hB⟩
  have B1 := hide ((unhide B0).trans (hB.mono (unhide B0).size))
  clear hB B0 H0
  go_wp2_with fail
  refine (unhide H1 _ ((unhide HK).below (unhide B1) (unhide HK).1)).mono ?_
  rintro e w2 ⟨rfl, hB⟩
  have B2 := hide ((unhide B1).trans (hB.mono (unhide B1).size))
  clear hB B1 H1
  go_wp2_with fail
  refine (unhide H2 _).mono ?_
  rintro e w3 ⟨rfl, hB⟩
  have B3 := hide ((unhide B2).trans (hB.mono (unhide B2).size))
  clear hB B2 H2
  go_wp2_with fail
  refine (unhide H3 _ ((unhide HK).below (unhide B3) (unhide HK).1)).mono ?_
  rintro e w4 ⟨rfl, hB⟩
  have B4 := hide ((unhide B3).trans (hB.mono (unhide B3).size))
  clear hB B3 H3
  go_wp2_with fail
  refine (unhide H4 _).mono ?_
  rintro e w5 ⟨rfl, hB⟩
  have B5 := hide ((unhide B4).trans (hB.mono (unhide B4).size))
  clear hB B4 H4
  go_wp2_with fail
  refine (unhide H5 _ ((unhide HK).below (unhide B5) (unhide HK).1)).mono ?_
  rintro e w6 ⟨rfl, hB⟩
  have B6 := hide ((unhide B5).trans (hB.mono (unhide B5).size))
  clear hB B5 H5
  go_wp2_with fail
  refine (unhide H6 _).mono ?_
  rintro e w7 ⟨rfl, hB⟩
  have B7 := hide ((unhide B6).trans (hB.mono (unhide B6).size))
  clear hB B6 H6
  go_wp2
  go_ret
  exact ⟨rfl, unhide B7⟩
end Go.Proofs.YtbnefbncjnfjdaaDoor
