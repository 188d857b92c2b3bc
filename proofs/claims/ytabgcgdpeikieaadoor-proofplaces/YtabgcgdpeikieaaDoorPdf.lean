import Derived.Test.YtabgcgdpeikieaaDoorPde
import Derived.Test.YtabgcgdpeikieaaDoorDrv
namespace Go.Proofs.YtabgcgdpeikieaaDoor
open Go.RowKit
set_option maxRecDepth 100000
def plc : ByteArray := ⟨#[112, 108, 97, 99, 101, 115]⟩
/-- What is derived of a draw and a digest. -/
def dvS (dr dg : ByteArray) (n : Nat) : ByteArray := strOfNums ((outP (nums dr) (nums (plc ++ dg)) ((n + 31) / 32)).take n)
theorem dvS_size (dr dg : ByteArray) (n : Nat) : (dvS dr dg n).size = n := by
  unfold dvS
  rw [strOfNums_size, List.length_take, outP_len]
  omega
set_option maxHeartbeats 1000000 in
theorem derived_any {w : World} {g1 g2 : Nat} {dr dg : ByteArray} (h1 : Blk w g1 #[.string dr] 9) (h2 : Blk w g2 #[.string dg] 9) (hr : dr.size = 16) (hg : dg.size = 32) (n : Nat) (hn : n ≤ 8160) (hK : KTab w) :
    Calls Tryd.prog 49 #[.int .i64 (n : Int), .pointer (some ⟨g1, 0, none⟩), .pointer (some ⟨g2, 0, none⟩)] w fun e w' => e = .returned (.string (dvS dr dg n)) ∧ Below w.heap.size w w' := by
  have c1 : w.cell? ⟨g1, 0, none⟩ = some (.string dr) := by rw [h1.cell]; rfl
  have c2 : w.cell? ⟨g2, 0, none⟩ = some (.string dg) := by rw [h2.cell]; rfl
  have hs : (plc ++ dg).size = 38 := by rw [ByteArray.size_append, hg]; rfl
  have HD := hide (derive_any dr (plc ++ dg) n hn (by omega) (by omega) w hK)
  have hp : plc.size = 6 := rfl
  have l1 : ¬ (9223372036854775807 < plc.size + dg.size) := by omega
  have l2 : plc.size + dg.size ≤ 9223372036854775807 := by omega
  obtain ⟨P, hP⟩ : ∃ P, P = plc := ⟨_, rfl⟩
  obtain ⟨D, hD⟩ : ∃ D, plc ++ dg = D := ⟨_, rfl⟩
  have hD' : (⟨#[112, 108, 97, 99, 101, 115]⟩ : ByteArray) ++ dg = D := hD
  have l3 : (⟨#[112, 108, 97, 99, 101, 115]⟩ : ByteArray).size + dg.size ≤ 9223372036854775807 := l2
  have HV := hide (show dvS dr dg n = strOfNums ((outP (nums dr) (nums D) ((n + 31) / 32)).take n) by unfold dvS; rw [hD])
  rw [hD] at HD
  clear h1 h2 hs hp l1 l2 hP hD hK
  clear P
  go_enter Tryd.func49, Tryd.ntmps49
  go_wp2_with (go_at_call 50; refine (unhide HD).mono ?_; rintro e z ⟨rfl, hz⟩; have HZ := hide hz; clear hz)
  go_ret
  exact ⟨by rw [unhide HV]; rfl, unhide HZ⟩
end Go.Proofs.YtabgcgdpeikieaaDoor
