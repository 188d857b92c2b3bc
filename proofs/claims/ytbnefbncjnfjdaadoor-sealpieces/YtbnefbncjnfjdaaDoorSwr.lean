import Derived.Test.YtbnefbncjnfjdaaDoorSop
namespace Go.Proofs.YtbnefbncjnfjdaaDoor
open Go.RowKit
def plc (v b : Int) : Bool := decide (0 ≤ v ∧ v ≤ 99 ∧ 0 ≤ b ∧ b < 60)
theorem plc_iff {v b : Int} : plc v b = true ↔ 0 ≤ v ∧ v ≤ 99 ∧ 0 ≤ b ∧ b < 60 := by simp [plc]
set_option maxHeartbeats 400000 in
theorem isPlace_any (v b : Int) (w : World) :
    Calls Tryd.prog 38 #[.int .i64 v, .int .i64 b] w fun e w' => e = .returned (.bool (plc v b)) ∧ w' = w := by
  by_cases h1 : 0 ≤ v
  · by_cases h2 : v ≤ 99
    · by_cases h3 : 0 ≤ b
      · by_cases h4 : b < 60
        · have HD := hide (show plc v b = true by simp [plc]; omega)
          go_enter Tryd.func38, Tryd.ntmps38
          go_wp2
          go_ret
          exact ⟨by rw [unhide HD]; rfl, rfl⟩
        · have HD := hide (show plc v b = false by simp [plc]; omega)
          have h4' : 60 ≤ b := by omega
          go_enter Tryd.func38, Tryd.ntmps38
          go_wp2
          go_ret
          exact ⟨by rw [unhide HD]; rfl, rfl⟩
      · have HD := hide (show plc v b = false by simp [plc]; omega)
        have h3' : b < 0 := by omega
        go_enter Tryd.func38, Tryd.ntmps38
        go_wp2
        go_ret
        exact ⟨by rw [unhide HD]; rfl, rfl⟩
    · have HD := hide (show plc v b = false by simp [plc]; omega)
      have h2' : 99 < v := by omega
      go_enter Tryd.func38, Tryd.ntmps38
      go_wp2
      go_ret
      exact ⟨by rw [unhide HD]; rfl, rfl⟩
  · have HD := hide (show plc v b = false by simp [plc]; omega)
    have h1' : v < 0 := by omega
    go_enter Tryd.func38, Tryd.ntmps38
    go_wp2
    go_ret
    exact ⟨by rw [unhide HD]; rfl, rfl⟩
def numT (v : Int) (n : Nat) : ByteArray := strOfNums (numB v n)
theorem numT_size (v : Int) (n : Nat) : (numT v n).size = n := by rw [← nums_len, numT, nums_strOfNums _ (numB_bytes _ _), numB_len]
def wrapT : ByteArray := ⟨#[119, 114, 97, 112]⟩
def tagT : ByteArray := ⟨#[116, 97, 103]⟩
theorem wrapT_eq : wrapT = ⟨#[119, 114, 97, 112]⟩ := rfl
theorem tagT_eq : tagT = ⟨#[116, 97, 103]⟩ := rfl
/-- What a place's wrapping is made with; 16 bytes of a tag. -/
def secB (m : ByteArray) (v b : Int) : ByteArray := macB m (wrapT ++ numT v 4 ++ numT b 4)
def tagB (h s : ByteArray) : ByteArray := (macB h (tagT ++ s)).extract 0 16
theorem secB_size (m : ByteArray) (v b : Int) : (secB m v b).size = 32 := macB_size _ _
theorem tagB_size (h s : ByteArray) : (tagB h s).size = 16 := by rw [tagB, ByteArray.size_extract, macB_size]; rfl
set_option maxHeartbeats 400000 in
theorem placeKey_any (m : ByteArray) (v b : Int) (hm : m.size = 32) (hv : 0 ≤ v ∧ v ≤ 99) (hb : 0 ≤ b ∧ b < 60) (w : World) (hK : KTab w) :
    Calls Tryd.prog 39 #[.string m, .int .i64 v, .int .i64 b] w fun e w' => e = .returned (.string (secB m v b)) ∧ Below w.heap.size w w' := by
  have H1 := hide (number_any v 4 (by omega) (by omega) (by omega) w)
  have H2 := hide (fun W => number_any b 4 (by omega) (by omega) (by omega) W)
  have z1 : (numT v 4).size = 4 := numT_size v 4
  have z2 : (numT b 4).size = 4 := numT_size b 4
  have z0 : (wrapT ++ numT v 4).size = 8 := by rw [ByteArray.size_append, z1]; rfl
  have H3 := hide (fun W (hW : KTab W) => mac_any m (wrapT ++ numT v 4 ++ numT b 4) (by omega) (by rw [ByteArray.size_append, z0, z2]; omega) W hW)
  change Hid (Calls Tryd.prog 49 #[.int .i64 v, .int .i64 4] w fun e w' => e = .returned (.string (numT v 4)) ∧ Below w.heap.size w w') at H1
  change Hid (∀ W, Calls Tryd.prog 49 #[.int .i64 b, .int .i64 4] W fun e w' => e = .returned (.string (numT b 4)) ∧ Below W.heap.size W w') at H2
  change Hid (∀ W, KTab W → Calls Tryd.prog 17 #[.string m, .string (wrapT ++ numT v 4 ++ numT b 4)] W fun e w' => e = .returned (.string (secB m v b)) ∧ Below W.heap.size W w') at H3
  have HK := hide hK
  clear hK hv hb hm
  generalize secB m v b = sc at *
  generalize numT v 4 = nv at *
  generalize numT b 4 = nb at *
  go_enter Tryd.func39, Tryd.ntmps39
  go_wp2_with fail
  refine (unhide H1).mono ?_
  rintro e w1 ⟨rfl, hB⟩
  have B1 := hide hB
  clear hB H1
  rw [wrapT_eq] at H3 z0
  go_wp2_with fail
  refine (unhide H2 w1).mono ?_
  rintro e w2 ⟨rfl, hB⟩
  have B2 := hide ((unhide B1).trans (hB.mono (unhide B1).size))
  clear hB H2 B1
  go_wp2_with fail
  refine (unhide H3 w2 ((unhide HK).below (unhide B2) (unhide HK).1)).mono ?_
  rintro e w3 ⟨rfl, hB⟩
  have B3 := hide ((unhide B2).trans (hB.mono (unhide B2).size))
  clear hB H3 B2
  go_wp2
  go_ret
  exact ⟨rfl, unhide B3⟩
set_option maxHeartbeats 400000 in
theorem tag_any (h s : ByteArray) (hh : h.size = 32) (hs : s.size = 32) (w : World) (hK : KTab w) :
    Calls Tryd.prog 40 #[.string h, .string s] w fun e w' => e = .returned (.string (tagB h s)) ∧ Below w.heap.size w w' := by
  have z0 : (tagT ++ s).size = 35 := by rw [ByteArray.size_append, hs]; rfl
  have H1 := hide (mac_any h (tagT ++ s) (by omega) (by omega) w hK)
  have zm := macB_size h (tagT ++ s)
  have HT := hide (show tagB h s = (macB h (tagT ++ s)).extract 0 16 from rfl)
  change Hid (Calls Tryd.prog 17 #[.string h, .string (tagT ++ s)] w fun e w' => e = .returned (.string (macB h (tagT ++ s))) ∧ Below w.heap.size w w') at H1
  rw [unhide HT]
  generalize macB h (tagT ++ s) = m at *
  clear hK hh z0 HT
  rw [tagT_eq] at H1
  go_enter Tryd.func40, Tryd.ntmps40
  go_wp2_with fail
  refine (unhide H1).mono ?_
  rintro e w1 ⟨rfl, hB⟩
  have B1 := hide hB
  clear hB H1
  go_wp2
  go_ret
  exact ⟨rfl, unhide B1⟩
end Go.Proofs.YtbnefbncjnfjdaaDoor
