import Derived.Test.YtkmgbicacbalfaaRsl
namespace Go.Proofs.Ytkmgbicacbalfaa
open Go.RowKit
theorem slots_b (body : ByteArray) (size : Int) (hb : body.size ≤ 9223372036854775807) (hs : I64 size) (w : World) :
    Calls Try.prog 11 #[.string body, .int .i64 size] w fun e w' => e = .returned (.int .i64 (slotsP body.size size : Int)) ∧ Below w.heap.size w w' :=
  (slots_any body size hb hs w).mono (by rintro e w' ⟨rfl, rfl⟩; exact ⟨rfl, Below.refl _ _⟩)
theorem rslots_b (body : ByteArray) (size : Int) (hb : body.size ≤ 9223372036854775807) (hs : I64 size) (w : World) :
    Calls Try.prog 15 #[.string body, .int .i64 size] w fun e w' => e = .returned (.int .i64 (slotsP body.size size : Int)) ∧ Below w.heap.size w w' :=
  (rslots_any body size hb hs w).mono (by rintro e w' ⟨rfl, rfl⟩; exact ⟨rfl, Below.refl _ _⟩)
theorem set_known (w : World) : Calls Try.prog 10 #[.string ⟨#[97, 98, 99, 100, 101, 102, 103]⟩, .int .i64 3, .int .i64 1, .string ⟨#[120, 121, 122]⟩] w fun e w' => e = .returned (.tuple #[.string ⟨#[97, 98, 99, 120, 121, 122, 103]⟩, .int .i64 0]) ∧ Below w.heap.size w w' := by
  have h := setSlot_any ⟨#[97, 98, 99, 100, 101, 102, 103]⟩ 3 1 ⟨#[120, 121, 122]⟩ (by decide) ⟨by decide, by decide⟩ ⟨by decide, by decide⟩ (by decide) w
  have e1 : setB ⟨#[97, 98, 99, 100, 101, 102, 103]⟩ ⟨#[120, 121, 122]⟩ 3 1 = ⟨#[97, 98, 99, 120, 121, 122, 103]⟩ := by decide +kernel
  have e2 : errT (ByteArray.size ⟨#[97, 98, 99, 100, 101, 102, 103]⟩) (ByteArray.size ⟨#[120, 121, 122]⟩) 3 1 = 0 := by decide +kernel
  rw [e1, e2] at h
  exact h
set_option maxRecDepth 100000 in
set_option maxHeartbeats 1000000 in
theorem slots_walk (body : ByteArray) (size k : Int) (s : ByteArray) (hb : body.size ≤ 140737488351232) (hsz : I64 size) (hk : I64 k) (hs : s.size ≤ 140737488351232) (w : World) :
    Calls Try.prog 5 #[.string body, .int .i64 size, .int .i64 k, .string s] w fun e w' => e = .returned (.bool true) ∧ Below w.heap.size w w' := by
  have H0 := hide (fun W => slots_b body size (by omega) hsz W)
  have H1 := hide (fun W => slot_any body size k (by omega) hsz hk W)
  have H2 := hide (fun W => rslot_any body size k (by omega) hsz hk W)
  have H3 := hide (fun W => setSlot_any body size k s (by omega) hsz hk (by omega) W)
  have H4 := hide (fun W => rsetSlot_any body size k s (by omega) hsz hk (by omega) W)
  have H5 := hide (fun W => set_known W)
  have H6 := hide (fun W => rslots_b body size (by omega) hsz W)
  have B0 := hide (Below.refl w.heap.size w)
  clear hsz hk
  generalize slotsP body.size size = A at *
  generalize slotB body size k = B at *
  generalize errS body.size size k = E at *
  generalize setB body s size k = D at *
  generalize errT body.size s.size size k = F at *
  go_enter Try.func5, Try.ntmps5
  go_wp2_with fail
  refine (unhide H0 _).mono ?_
  rintro e w1 ⟨rfl, hB⟩
  have B1 := hide ((unhide B0).trans (hB.mono (unhide B0).size))
  clear hB B0 H0
  go_wp2_with fail
  refine (unhide H1 _).mono ?_
  rintro e w2 ⟨rfl, hB⟩
  have B2 := hide ((unhide B1).trans (hB.mono (unhide B1).size))
  clear hB B1 H1
  go_wp2_with fail
  refine (unhide H2 _).mono ?_
  rintro e w3 ⟨rfl, hB⟩
  have B3 := hide ((unhide B2).trans (hB.mono (unhide B2).size))
  clear hB B2 H2
  go_wp2_with fail
  refine (unhide H3 _).mono ?_
  rintro e w4 ⟨rfl, hB⟩
  have B4 := hide ((unhide B3).trans (hB.mono (unhide B3).size))
  clear hB B3 H3
  go_wp2_with fail
  refine (unhide H4 _).mono ?_
  rintro e w5 ⟨rfl, hB⟩
  have B5 := hide ((unhide B4).trans (hB.mono (unhide B4).size))
  clear hB B4 H4
  go_wp2_with fail
  refine (unhide H5 _).mono ?_
  rintro e w6 ⟨rfl, hB⟩
  have B6 := hide ((unhide B5).trans (hB.mono (unhide B5).size))
  clear hB B5 H5
  go_wp2_with fail
  refine (unhide H6 _).mono ?_
  rintro e w7 ⟨rfl, hB⟩
  have B7 := hide ((unhide B6).trans (hB.mono (unhide B6).size))
  clear hB B6 H6
  go_wp2
  go_ret
  exact ⟨rfl, unhide B7⟩
end Go.Proofs.Ytkmgbicacbalfaa
