import Derived.Test.YtilhilglokblpaaDoorSha
import Derived.Test.YtilhilglokblpaaDoorWr
namespace Go.Proofs.YtilhilglokblpaaDoor
open Go.RowKit
set_option maxRecDepth 100000 in
set_option maxHeartbeats 400000 in
theorem msum_any (w : World) (b : Nat) (l : List Int) (h : Hs w b l) (_hbs : b < w.heap.size) (hK : KTab w) (hn : l.length < 2305843009213693952) :
    Calls Tryd.prog 53 #[.pointer (some ⟨b, 0, none⟩)] w fun e w' => e = .returned (.string (strOfNums (sha l))) ∧ Below w.heap.size w w' := by
  obtain ⟨q, hq, hqb, hA, hqt⟩ := h
  have hsha := sha_fin l
  rw [← hqt] at hsha
  rw [hsha]
  clear hsha
  have HR := hide (hA.range hq)
  have HK := hide hK
  have HQ := hide hqb
  have hcl : (hCells (comps start8 l (l.length / 64)) q l.length).length = 73 := by simp [hCells, H8.vals, hq]
  clear hA hK hqb hqt
  generalize comps start8 l (l.length / 64) = s at *
  generalize l.length = n at *
  go_enter Tryd.func53, Tryd.ntmps53
  go_wp2_with (first
    | (refine wpList_load_mid rfl 97 (.tmp 8) rfl b 0 rfl _ _ (unhide HR) Tryd.underlying97 rfl (by rw [size97, hcl]) ?_)
    | (go_at_call 60; refine (hfilled_any s q n hq (unhide HQ) hn _ (unhide HK)).mono ?_; rintro e w1 ⟨rfl, hb1⟩)
    | (go_at_call 59; refine (digest_any _ _).mono ?_; rintro e w2 ⟨rfl, hb2⟩))
  go_ret
  exact ⟨rfl, hb1.trans (hb2.mono hb1.size)⟩
set_option maxRecDepth 100000 in
set_option maxHeartbeats 400000 in
theorem msum_nil (w : World) (hK : KTab w) :
    Calls Tryd.prog 53 #[.pointer none] w fun e w' => e = .returned (.string (strOfNums (sha []))) ∧ Below w.heap.size w w' := by
  have HK := hide hK
  clear hK
  go_enter Tryd.func53, Tryd.ntmps53
  go_wp2_with fail
  refine (hs_new_any w).mono ?_
  rintro e w1 ⟨rfl, h1, hb1, hs1⟩
  have H1 := hide h1
  have HB1 := hide hb1
  have HS1 := hide hs1
  clear h1 hb1 hs1
  go_wp2_with fail
  refine (msum_any w1 w.heap.size [] (unhide H1) (by rw [unhide HS1]; omega) ((unhide HK).below (unhide HB1) (unhide HK).1) (by simp)).mono ?_
  rintro e w2 ⟨rfl, hb2⟩
  go_wp2_with fail
  go_ret
  exact ⟨rfl, (unhide HB1).trans (hb2.mono (by rw [unhide HS1]; omega))⟩
set_option maxRecDepth 100000 in
set_option maxHeartbeats 400000 in
theorem sum_any (t : ByteArray) (w : World) (hK : KTab w) (hn : t.size < 2305843009213693952) :
    Calls Tryd.prog 37 #[.string t] w fun e w' => e = .returned (.string (strOfNums (sha (nums t)))) ∧ Below w.heap.size w w' := by
  have HK := hide hK
  clear hK
  go_enter Tryd.func37, Tryd.ntmps37
  go_wp2_with fail
  refine (hs_new_any w).mono ?_
  rintro e w1 ⟨rfl, h1, hb1, hs1⟩
  have H1 := hide h1
  have HB1 := hide hb1
  have HS1 := hide hs1
  clear h1 hb1 hs1
  go_wp2_with fail
  refine (hs_write_any w1 w.heap.size [] t (unhide H1) (unhide HK).1 (by rw [unhide HS1]; omega) ((unhide HK).below (unhide HB1) (unhide HK).1) (by simpa using hn)).mono ?_
  rintro e w2 ⟨rfl, h2, ht2⟩
  have H2 := hide h2
  have HT2 := hide ht2
  clear h2 ht2
  go_wp2_with fail
  refine (msum_any w2 w.heap.size (nums t) (by simpa using unhide H2) (Nat.lt_of_lt_of_le (by rw [unhide HS1]; omega) (unhide HT2).1.size) (((unhide HK).below (unhide HB1) (unhide HK).1).touch (unhide HT2) (unhide HK).1) (by rw [nums_len]; exact hn)).mono ?_
  rintro e w3 ⟨rfl, hb3⟩
  go_wp2_with fail
  go_ret
  exact ⟨rfl, ((unhide HB1).trans (unhide HT2).1).trans (hb3.mono (Nat.le_trans (unhide HB1).size (unhide HT2).1.size))⟩
end Go.Proofs.YtilhilglokblpaaDoor
