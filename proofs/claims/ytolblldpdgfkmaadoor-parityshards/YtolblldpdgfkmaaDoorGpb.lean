import Derived.Test.YtolblldpdgfkmaaDoorGpa
import Derived.Test.YtolblldpdgfkmaaDoorGrw
namespace Go.Proofs.YtolblldpdgfkmaaDoor
open Go.RowKit
set_option maxRecDepth 100000
theorem sizeM : (Tryd.prog.info? 102).map (·.size) = some 256 := by kernel_rfl
/-- the products of a, below k; noughts behind them -/
def mlL (a k : Nat) : List Int := (List.range 256).map (fun b => if b < k then (gm a b : Int) else 0)
theorem mlL_len (a k : Nat) : (mlL a k).length = 256 := by simp [mlL]
theorem mlL_get (a k b : Nat) (hb : b < 256) : (mlL a k).getD b 0 = if b < k then (gm a b : Int) else 0 := by simp [mlL, hb]
theorem mlL_set (a k : Nat) : (mlL a k).set k (gm a k : Int) = mlL a (k + 1) := by
  apply List.ext_getElem
  · simp [mlL]
  · intro b h1 h2
    simp only [mlL, List.getElem_map, List.getElem_range, List.getElem_set]
    by_cases q : k = b
    · rw [if_pos q, if_pos (by omega), q]
    · rw [if_neg q]
      by_cases q2 : b < k
      · rw [if_pos q2, if_pos (by omega)]
      · rw [if_neg q2, if_neg (by omega)]
theorem mlL_one (a : Nat) : mlL a 1 = List.replicate 256 0 := by
  refine List.eq_replicate_iff.2 ⟨mlL_len a 1, fun x hx => ?_⟩
  obtain ⟨j, _, rfl⟩ := List.mem_map.1 hx
  show (if j < 1 then (gm a j : Int) else 0) = 0
  by_cases q : j < 1
  · rw [if_pos q, show j = 0 by omega, gm_zero]; rfl
  · rw [if_neg q]
/-- behind the result's block lies the table -/
def MlI (w : World) (l : List Int) (wr : World) : Prop := Arr wr (w.heap.size + 1) 0 .u8 l ∧ Arr wr w.heap.size 0 .u8 (List.replicate 256 0) ∧ Below w.heap.size w wr
theorem MlI.put {w : World} {l l' : List Int} {wr : World} (h : MlI w l wr) (t : Nat) (ht : t < l.length) (v : Int) (e : l.set t v = l') : MlI w l' (wr.setCell ⟨w.heap.size + 1, t, none⟩ (.int .u8 v)) := by
  subst e
  exact ⟨h.1.set0 t ht v, h.2.1.other _ _ (by simp), h.2.2.setCell (by simp) _⟩
theorem zeroM : Tryd.zeroCells102 = ((List.replicate 256 (0 : Int)).map (Value.int .u8)).toArray := by kernel_rfl
theorem MlI.start (w : World) (a : Nat) : MlI w (mlL a 1) ((w.alloc (.cells Tryd.zeroCells102 102)).alloc (.cells Tryd.zeroCells102 102)) := by
  have h1 := arr_new w .u8 (List.replicate 256 0) 102 _ zeroM
  refine ⟨?_, h1.alloc (by simp) _, ((Below.refl _ _).alloc (Nat.le_refl _) _).alloc (by simp) _⟩
  rw [mlL_one]
  have h2 := arr_new (w.alloc (.cells Tryd.zeroCells102 102)) .u8 (List.replicate 256 0) 102 _ zeroM
  simpa using h2
set_option maxHeartbeats 2000000 in
theorem mults_any (a : Nat) (ha : a < 256) (w : World) : Calls Tryd.prog 68 #[.int .u8 (a : Int)] w fun e w' => e = .returned (.agg ((mlL a 256).map (Value.int .u8)).toArray) ∧ Below w.heap.size w w' := by
  have HS := hide (MlI.start w a)
  obtain ⟨M, hM⟩ : ∃ M, mlL a 256 = M := ⟨_, rfl⟩
  rw [hM]
  have HMM := hide hM
  clear hM
  go_enter Tryd.func68, Tryd.ntmps68
  go_wp2
  go_loopw [4] (fun i wr => ∃ k : Nat, 1 ≤ k ∧ k ≤ 256 ∧ i = .int .i64 (k : Int) ∧ Hid (MlI w (mlL a k) wr)) (fun i _ => 256 - (intOf i).toNat)
  case atStart => exact ⟨1, by omega, by omega, rfl, HS⟩
  case round =>
  obtain ⟨k, hk1, hk, rfl, HI⟩ := hrel
  clear HS
  by_cases hkn : k < 256
  case neg =>
    obtain rfl : k = 256 := by omega
    have hkn' : ¬ ((256 : Nat) : Int) < 256 := by omega
    have hr := (unhide HI).1.range
    have hll := mlL_len a 256
    have HTH := hide (show wr.there w.heap.size 0 ((mlL a 256).map (Value.int .u8)).toArray.size from by
      have := (unhide HI).2.1.there
      rw [List.length_replicate] at this
      have e : ((mlL a 256).map (Value.int .u8)).toArray.size = 256 := by simp [mlL]
      rw [e]
      exact this)
    have HL := hide hll
    rw [unhide HMM] at hr HTH HL
    have HR := hide hr
    clear hr hll hkn
    go_wp2_with (first
      | (refine wpList_load_mid rfl 102 (.tmp 3) rfl (w.heap.size + 1) 0 rfl _ _ (unhide HR) Tryd.underlying102 rfl (by rw [sizeM, List.length_map, unhide HL]) ?_)
      | (refine wpList_store_mid rfl 102 (.tmp 2) (.tmp 25) rfl w.heap.size 0 _ rfl rfl (unhide HTH) (by rw [sizeM]; simp [unhide HL]) (one_ints _ _) ?_))
    have hld := run_loadVar_mid (P := Tryd.prog) _ w.heap.size 0 102 _ _ (World.rangeAt_setCells_same wr w.heap.size 0 (M.map (Value.int .u8)) (by simpa using unhide HTH)) Tryd.underlying102 rfl (by rw [sizeM, List.length_map, unhide HL])
    refine bodyPost_ret (v := .agg (M.map (Value.int .u8)).toArray) ?_ rfl ⟨rfl, below_setCells (Nat.le_refl _) _ _ (unhide HI).2.2⟩
    exact results_cell rfl _ _ _ ⟨w.heap.size, 0, none⟩ rfl _ hld
  have hkn' : (k : Int) < 256 := by omega
  obtain ⟨h, hh⟩ : ∃ h, k / 2 = h := ⟨_, rfl⟩
  have hq : (k : Int) / 2 = (h : Int) := by omega
  have hh1 : h < k := by omega
  have hhm : (h : Int) < 256 := by omega
  have c1 := (unhide HI).1.get0 h (by rw [mlL_len]; omega)
  have c2 := (unhide HI).1.get0 k (by rw [mlL_len]; omega)
  have f2 := (unhide HI).1.free0 k (by rw [mlL_len]; omega)
  rw [mlL_get a k h (by omega), if_pos hh1] at c1
  rw [mlL_get a k k (by omega), if_neg (by omega)] at c2
  have hgh : gm a h < 256 := gm_lt _ _ ha (by omega)
  have HD := hide (fun W => pdouble_any (gm a h) hgh W)
  have hdl := dbl_lt _ hgh
  have hml := mults a k ha hkn
  rw [hh] at hml
  obtain ⟨gh, hgh2⟩ : ∃ q, gm a h = q := ⟨_, rfl⟩
  rw [hgh2] at c1 HD hdl hml
  obtain ⟨d, hd⟩ : ∃ q, dbl gh = q := ⟨_, rfl⟩
  rw [hd] at HD hdl hml
  have HP := hide (show ∀ v : Nat, gm a k = v → MlI w (mlL a (k + 1)) (wr.setCell ⟨w.heap.size + 1, k, none⟩ (.int .u8 (v : Int))) from fun v hv => (unhide HI).put k (by rw [mlL_len]; omega) _ (by rw [← hv]; exact mlL_set a k))
  have HP2 := hide (show ∀ v u : Nat, gm a k = v → MlI w (mlL a (k + 1)) ((wr.setCell ⟨w.heap.size + 1, k, none⟩ (.int .u8 (u : Int))).setCell ⟨w.heap.size + 1, k, none⟩ (.int .u8 (v : Int))) from fun v u hv => ((unhide HI).put k (by rw [mlL_len]; omega) (u : Int) rfl).put k (by rw [List.length_set, mlL_len]; omega) _ (by rw [List.set_set, ← hv]; exact mlL_set a k))
  clear hgh hgh2 hd HI hh
  rcases Nat.mod_two_eq_zero_or_one k with hm | hm
  · have hm' : (k : Int) % 2 = 0 := by omega
    have HM := hide (show gm a k = d from by rw [hml, hm]; simp)
    clear hml hm hh1
    go_wp2_with fail
    refine (unhide HD _).mono ?_
    rintro e w' ⟨rfl, hw'⟩
    subst w'
    go_wp2
    go_roundw
    case rel => exact ⟨k + 1, by omega, by omega, by go_num, hide (unhide HP _ (unhide HM))⟩
    case measure => simp [intOf] <;> omega
  · have hm' : (k : Int) % 2 = 1 := by omega
    have hx := xor8q d a hdl ha
    have HM := hide (show gm a k = d ^^^ a from by rw [hml, hm]; simp)
    clear hml hm hh1
    go_wp2_with fail
    refine (unhide HD _).mono ?_
    rintro e w' ⟨rfl, hw'⟩
    subst w'
    go_wp2
    go_roundw
    case rel => exact ⟨k + 1, by omega, by omega, by go_num, hide (unhide HP2 _ _ (unhide HM))⟩
    case measure => simp [intOf] <;> omega
end Go.Proofs.YtolblldpdgfkmaaDoor
