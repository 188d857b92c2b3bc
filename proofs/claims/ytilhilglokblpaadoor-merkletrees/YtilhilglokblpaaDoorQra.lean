import Derived.Test.YtilhilglokblpaaDoorQpt
import Derived.Test.YtilhilglokblpaaDoorQmd
import Derived.Test.YtilhilglokblpaaDoorRsu
namespace Go.Proofs.YtilhilglokblpaaDoor
open Go.RowKit
set_option maxRecDepth 100000
theorem rdg_any (t : ByteArray) (ht : t.size ≤ 140737488355200) (w : World) : Calls Tryd.prog 32 #[.string t] w fun e w' => e = .returned (.string (dg t)) ∧ Below w.heap.size w w' := rsum_any t (by omega) w
set_option maxHeartbeats 1000000 in
theorem rbelow_any (n : Nat) (h2 : 2 ≤ n) (hn : n ≤ 65536) (w : World) : Calls Tryd.prog 34 #[.int .i64 (n : Int)] w fun e w' => e = .returned (.int .i64 (kk n : Int)) ∧ w' = w := by
  obtain ⟨K, hK⟩ : ∃ z, kk n = z := ⟨_, rfl⟩
  have HK := hide hK
  rw [hK]
  clear hK
  go_enter Tryd.func34, Tryd.ntmps34
  go_wp2
  go_loopw [3] (fun i wr => ∃ k : Nat, 1 ≤ k ∧ k < n ∧ i = .int .i64 (k : Int) ∧ Hid (∃ e, k = 2 ^ e) ∧ wr = w) (fun i _ => n - (intOf i).toNat)
  case atStart => exact ⟨1, by omega, by omega, rfl, ⟨0, rfl⟩, rfl⟩
  case round =>
  obtain ⟨k, hk1, hk2, rfl, HE, hw⟩ := hrel
  subst wr
  have e0 : IntKind.i64.wrap (2 * (k : Int)) = 2 * (k : Int) := wrapI_eq _ (by omega) (by omega)
  by_cases hkn : 2 * k < n
  · have e1 : 2 * (k : Int) < (n : Int) := by omega
    have HE2 := hide (show ∃ e, 2 * k = 2 ^ e from by obtain ⟨e, he⟩ := unhide HE; exact ⟨e + 1, by rw [Nat.pow_succ]; omega⟩)
    clear HE
    go_wp2
    go_roundw
    case rel => exact ⟨2 * k, by omega, by omega, by go_num, HE2, by first | rfl | trivial⟩
    case measure => simp [intOf] <;> omega
  · have e1 : ¬ 2 * (k : Int) < (n : Int) := by omega
    have HR := hide (show k = K from by
      obtain ⟨e, he⟩ := unhide HE
      rw [← unhide HK, kk_is n e (by omega) (by rw [Nat.pow_succ]; omega), he])
    clear HE
    go_wp2
    go_ret
    exact ⟨by rw [unhide HR]; rfl, rfl⟩
theorem rleaf_any (s : ByteArray) (hs : s.size ≤ 140737488355000) (w : World) : Calls Tryd.prog 33 #[.string s] w fun e w' => e = .returned (.string (lf s)) ∧ Below w.heap.size w w' := by
  have HR := hide (rdg_any (mk0 ++ s) (by rw [ByteArray.size_append, mk0_size]; omega) w)
  rw [show dg (mk0 ++ s) = lf s from rfl] at HR
  have z0 : (⟨#[0]⟩ : ByteArray).size = 1 := rfl
  obtain ⟨u, hu⟩ : ∃ u, (⟨#[0]⟩ : ByteArray) ++ s = u := ⟨_, rfl⟩
  rw [show mk0 ++ s = u from hu] at HR
  generalize lf s = r at *
  go_enter Tryd.func33, Tryd.ntmps33
  go_wp2_with fail
  refine (unhide HR).mono ?_
  rintro e z ⟨rfl, hb⟩
  have HB := hide hb
  clear hb HR
  go_wp2
  go_ret
  exact ⟨rfl, unhide HB⟩
theorem rnode_any (a b : ByteArray) (ha : a.size = 32) (hb : b.size = 32) (w : World) : Calls Tryd.prog 35 #[.string a, .string b] w fun e w' => e = .returned (.string (ndB a b)) ∧ Below w.heap.size w w' := by
  have HR := hide (rdg_any (mk1 ++ a ++ b) (by simp only [ByteArray.size_append, mk1_size, ha, hb]; omega) w)
  rw [show dg (mk1 ++ a ++ b) = ndB a b from rfl] at HR
  have z0 : (⟨#[1]⟩ : ByteArray).size = 1 := rfl
  obtain ⟨u, hu⟩ : ∃ u, (⟨#[1]⟩ : ByteArray) ++ a = u := ⟨_, rfl⟩
  obtain ⟨v, hv⟩ : ∃ v, u ++ b = v := ⟨_, rfl⟩
  have z1 : u.size = 33 := by rw [← hu, ByteArray.size_append, ha]; rfl
  rw [show mk1 ++ a ++ b = v from by rw [← hv, ← hu]; rfl] at HR
  generalize ndB a b = r at *
  go_enter Tryd.func35, Tryd.ntmps35
  go_wp2_with fail
  refine (unhide HR).mono ?_
  rintro e z ⟨rfl, hb⟩
  have HB := hide hb
  clear hb HR
  go_wp2
  go_ret
  exact ⟨rfl, unhide HB⟩
theorem gr_boo : (Tryd.prog.info? 4).map (fun i => (i.zero, i.size, i.bytes)) = some (some (.bool false), 1, 1) := by kernel_rfl
/-- a list of sides comes out, new -/
def BQ (w : World) (L : List Bool) (e : Ending) (w' : World) : Prop := ∃ v, e = .returned v ∧ w'.ownsRow w.heap.size 4 1 v L.length (L.map Value.bool) ∧ Below w.heap.size w w'
end Go.Proofs.YtilhilglokblpaaDoor
