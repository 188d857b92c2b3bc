import Derived.Test.YtbnefbncjnfjdaaDoorSrl
namespace Go.Proofs.YtbnefbncjnfjdaaDoor
open Go.RowKit
def wthn (f n : Int) : Bool := decide (0 ≤ f ∧ 0 ≤ n ∧ f + n ≤ 65536)
set_option maxHeartbeats 400000 in
theorem within_any (f n : Int) (w : World) :
    Calls Tryd.prog 36 #[.int .i64 f, .int .i64 n] w fun e w' => e = .returned (.bool (wthn f n)) ∧ w' = w := by
  by_cases h1 : 0 ≤ f
  · by_cases h2 : 0 ≤ n
    · by_cases h3 : f ≤ 65536
      · by_cases h4 : n ≤ 65536 - f
        · have HD := hide (show wthn f n = true by simp [wthn]; omega)
          go_enter Tryd.func36, Tryd.ntmps36
          go_wp2
          go_ret
          exact ⟨by rw [unhide HD]; rfl, rfl⟩
        · have HD := hide (show wthn f n = false by simp [wthn]; omega)
          have h4' : 65536 - f < n := by omega
          go_enter Tryd.func36, Tryd.ntmps36
          go_wp2
          go_ret
          exact ⟨by rw [unhide HD]; rfl, rfl⟩
      · have HD := hide (show wthn f n = false by simp [wthn]; omega)
        have h3' : 65536 < f := by omega
        go_enter Tryd.func36, Tryd.ntmps36
        go_wp2
        go_ret
        exact ⟨by rw [unhide HD]; rfl, rfl⟩
    · have HD := hide (show wthn f n = false by simp [wthn]; omega)
      have h2' : n < 0 := by omega
      go_enter Tryd.func36, Tryd.ntmps36
      go_wp2
      go_ret
      exact ⟨by rw [unhide HD]; rfl, rfl⟩
  · have HD := hide (show wthn f n = false by simp [wthn]; omega)
    have h1' : f < 0 := by omega
    go_enter Tryd.func36, Tryd.ntmps36
    go_wp2
    go_ret
    exact ⟨by rw [unhide HD]; rfl, rfl⟩
set_option maxHeartbeats 400000 in
theorem rstream_any (key : ByteArray) (f n : Int) (w : World) :
    Calls Tryd.prog 20 #[.string key, .int .i64 f, .int .i64 n] w fun e w' => e = .returned (.tuple #[.string (streamB key f n), .int .i64 (errP key f n)]) ∧ Below w.heap.size w w' := by
  by_cases h1 : key.size = 32
  · have h1' : ((key.size : Int) != 32) = false := by simp; omega
    by_cases h2 : 0 ≤ f ∧ 0 ≤ n ∧ f + n ≤ 65536
    · have he : errP key f n = 0 := errP_zero.2 ⟨h1, h2⟩
      have hd : wthn f n = true := by simp [wthn, h2]
      obtain ⟨h2a, h2b, h2c⟩ := h2
      obtain ⟨F, rfl⟩ := Int.eq_ofNat_of_zero_le h2a
      obtain ⟨N, rfl⟩ := Int.eq_ofNat_of_zero_le h2b
      have HS := hide (show streamB key F N = strOfNums (partP (nums key) F N) by rw [streamB, if_pos he]; rfl)
      have HP := hide (rpart_any key F N (by omega) (by omega) w)
      rw [unhide HS, he]
      have HD := hide hd
      clear h2a h2b h2c he h1 hd
      go_enter Tryd.func20, Tryd.ntmps20
      go_wp2_with fail
      refine (within_any F N w).mono ?_
      rintro e w1 ⟨rfl, rfl⟩
      rw [unhide HD]
      go_wp2_with fail
      refine (unhide HP).mono ?_
      rintro e w2 ⟨rfl, hB⟩
      have HB := hide hB
      clear hB
      go_wp2
      go_ret2
      exact ⟨rfl, unhide HB⟩
    · have he : errP key f n = 21 := errP_21 h1 h2
      have hd : wthn f n = false := by simp only [wthn, decide_eq_false_iff_not]; exact h2
      have HS := hide (show streamB key f n = ⟨#[]⟩ by rw [streamB, if_neg (by omega)])
      rw [unhide HS, he]
      have HD := hide hd
      clear he h1 hd h2
      go_enter Tryd.func20, Tryd.ntmps20
      go_wp2_with fail
      refine (within_any f n w).mono ?_
      rintro e w1 ⟨rfl, rfl⟩
      rw [unhide HD]
      go_wp2
      go_ret2
      exact ⟨rfl, Below.refl _ _⟩
  · have h1' : ((key.size : Int) != 32) = true := ne_int h1
    have he : errP key f n = 20 := errP_20 h1
    have HS := hide (show streamB key f n = ⟨#[]⟩ by rw [streamB, if_neg (by omega)])
    rw [unhide HS, he]
    clear he h1
    go_enter Tryd.func20, Tryd.ntmps20
    go_wp2
    go_ret2
    exact ⟨rfl, Below.refl _ _⟩
end Go.Proofs.YtbnefbncjnfjdaaDoor
