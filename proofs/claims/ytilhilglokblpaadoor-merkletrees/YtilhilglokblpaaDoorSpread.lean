import Derived.Test.YtilhilglokblpaaDoorChecked
import Derived.Test.YtilhilglokblpaaDoorArr
import Derived.Test.YtilhilglokblpaaDoorSpr
import Derived.WalkKit
import Derived.WalkSpells
import Derived.WalkLawsBesides
import Derived.RegionTactic
import Derived.Deep.QuietTactic
import Derived.BigQuiet
import Derived.Deep.DeepMust
namespace Go.Proofs.YtilhilglokblpaaDoor
open Go.RowKit

def SprInv (w : World) (p l : List Int) (wr : World) : Prop :=
  Arr wr w.heap.size 0 .u8 p ∧ Arr wr (w.heap.size + 1 + 1) 0 .u32 l ∧ Arr wr (w.heap.size + 1) 0 .u32 (List.replicate 64 0) ∧ Below w.heap.size w wr

theorem SprInv.drew {w : World} {p l : List Int} {wr : World} (h : SprInv w p l wr) : SprInv w p l wr.drew := ⟨h.1, h.2.1, h.2.2.1, h.2.2.2.drew⟩
theorem SprInv.drewN {w : World} {p l : List Int} {wr : World} (h : SprInv w p l wr) (n : Nat) : SprInv w p l (wr.drewN n) := ⟨h.1, h.2.1, h.2.2.1, below_drewN h.2.2.2 n⟩
theorem SprInv.put {w : World} {p l l' : List Int} {wr : World} (h : SprInv w p l wr) (t : Nat) (ht : t < l.length) (v : Int) (e : l.set t v = l') : SprInv w p l' (wr.setCell ⟨w.heap.size + 1 + 1, t, none⟩ (.int .u32 v)) := by
  subst e
  exact ⟨h.1.other _ _ (.inl (by simp; omega)), h.2.1.set0 t ht v, h.2.2.1.other _ _ (.inl (by simp)), h.2.2.2.setCell (by simp; omega) _⟩
theorem SprInv.start (w : World) (p : List Int) (c : Array Value) (hc : c = ((List.replicate 64 (0 : Int)).map (Value.int .u32)).toArray) :
    SprInv w p (List.replicate 64 0) (((w.alloc (Obj.cells (List.map (Value.int IntKind.u8) p).toArray 89)).alloc (Obj.cells c 82)).alloc (Obj.cells c 82)) :=
  ⟨((arr_new w .u8 p 89 _ rfl).alloc (by simp) _).alloc (by simp; omega) _, by simpa using arr_new ((w.alloc (Obj.cells (List.map (Value.int IntKind.u8) p).toArray 89)).alloc (Obj.cells c 82)) .u32 (List.replicate 64 0) 82 c hc,
   by simpa using (arr_new (w.alloc (Obj.cells (List.map (Value.int IntKind.u8) p).toArray 89)) .u32 (List.replicate 64 0) 82 c hc).alloc (by simp) (Obj.cells c 82),
   (((Below.refl _ _).alloc (Nat.le_refl _) _).alloc (by simp) _).alloc (by simp; omega) _⟩
theorem or_byte' (x b y : Int) (h0 : 0 ≤ x) (h1 : x < 16777216) (h2 : 0 ≤ b) (h3 : b < 256) (hy : y = x * 256) : bits .or .u32 y b = x * 256 + b := by
  rw [← or_byte x b h0 h1 h2 h3, hy]
  congr 1
  rw [IntKind.wrap_u32']
  omega

theorem size82 : (Tryd.prog.info? 82).map (·.size) = some 64 := by kernel_rfl
theorem size80 : (Tryd.prog.info? 80).map (·.size) = some 8 := by kernel_rfl
theorem size89 : (Tryd.prog.info? 89).map (·.size) = some 64 := by kernel_rfl
theorem hturned_any (x n : Int) (w : World) (h0 : 0 ≤ n) (h1 : n ≤ 32) :
    Calls Tryd.prog 64 #[.int .u32 x, .int .u64 n] w fun e w' => e = .returned (.int .u32 (rotr x n)) ∧ w' = w := by
  go_enter Tryd.func64, Tryd.ntmps64
  go_wp2
  go_ret
  exact ⟨rfl, rfl⟩
set_option maxHeartbeats 1000000 in
theorem spread_any (p : List Int) (hp : p.length = 64) (hb : Bytes p) (w : World) :
    Calls Tryd.prog 63 #[.agg (p.map (Value.int .u8)).toArray] w fun e w' => e = .returned (.agg ((spr p 64).map (Value.int .u32)).toArray) ∧ Below w.heap.size w w' := by
  have HS := hide (SprInv.start w p _ rfl)
  go_enter Tryd.func63, Tryd.ntmps63
  go_wp2
  go_loopw [11] (fun i wr => ∃ t : Nat, t ≤ 16 ∧ i = .int .i64 t ∧ SprInv w p (spr p t ++ List.replicate (64 - t) 0) wr) (fun i _ => 16 - (intOf i).toNat)
  case atStart => exact ⟨0, by omega, rfl, unhide HS⟩
  case round =>
    clear HS
    obtain ⟨t, ht, rfl, hI⟩ := hrel
    by_cases htl : t < 16
    · obtain ⟨wo, rfl⟩ : ∃ wo : World, wo = wr := ⟨_, rfl⟩
      have HI := hide hI
      clear hI
      go_wp2
      go_loopw [14] (fun i wr => ∃ k : Nat, k ≤ 4 ∧ i = .int .i64 k ∧ SprInv w p ((spr p t ++ List.replicate (64 - t) 0).set t (part p t k)) wr) (fun i _ => 4 - (intOf i).toNat)
      case atStart => exact ⟨0, by omega, rfl, by
        have := unhide HI
        have e : (spr p t ++ List.replicate (64 - t) 0).set t (part p t 0) = spr p t ++ List.replicate (64 - t) 0 := by
          apply List.ext_getElem?
          intro i
          rw [List.getElem?_set]
          by_cases h : t = i
          · subst h
            have h1 : t < t + (64 - t) := by omega
            simp [part, spr_len, h1]
          · simp [h]
        rw [e]; exact this⟩
      case round =>
        obtain ⟨k, hk, rfl, hI⟩ := hrel
        by_cases hkl : k < 4
        · have c1 := hI.1.get0 (4 * t + k) (by omega)
          have c2 := hI.2.1.get0 t (by simp [spr_len]; omega)
          rw [getD_set, if_pos ⟨rfl, by simp [spr_len]; omega⟩] at c2
          have f2 := hI.2.1.free0 t (by simp [spr_len]; omega)
          have HI2 := hide hI
          clear hI
          have bd := part_bd p hb t k (by omega)
          have bb := hb (4 * t + k)
          obtain ⟨x, hx⟩ : ∃ x, x = part p t k := ⟨_, rfl⟩
          obtain ⟨y, hy⟩ : ∃ y, y = p.getD (4 * t + k) 0 := ⟨_, rfl⟩
          rw [← hx] at c2 bd
          rw [← hy] at c1 bb
          have HX := hide hx; have HY := hide hy
          clear hx hy
          go_wp2
          go_region
          go_wp2
          go_roundw
          case rel =>
            refine ⟨k + 1, by omega, by go_num, ((unhide HI2).put t (by simp [spr_len]; omega) _ ?_).drew⟩
            rw [List.set_set, or_byte' x y _ bd.1 bd.2 bb.1 bb.2 (by omega)]
            rw [part, unhide HX, unhide HY]
          case measure => simp [intOf]; omega
        · have : k = 4 := by omega
          subst this
          have HI2 := hide hI
          clear hI
          go_wp2
          go_roundw
          case rel =>
            refine ⟨t + 1, by omega, by go_num, ?_⟩
            have := unhide HI2
            rw [part_four] at this
            have e := fill_set (spr p t) 64 (word p t) (by rw [spr_len]; omega)
            rw [spr_len] at e
            rw [e] at this
            rw [spr, if_pos htl]; exact this
          case measure => simp [intOf]; omega
    · have e16 : t = 16 := by omega
      rw [e16] at hI
      have HI2 := hide hI
      clear hI e16
      go_wp2
      go_loopw [6] (fun i wr => ∃ t : Nat, 16 ≤ t ∧ t ≤ 64 ∧ i = .int .i64 t ∧ SprInv w p (spr p t ++ List.replicate (64 - t) 0) wr) (fun i _ => 64 - (intOf i).toNat)
      case atStart => exact ⟨16, by omega, by omega, rfl, unhide HI2⟩
      case round =>
        clear HI2
        clear ht htl
        obtain ⟨t, ht1, ht2, rfl, hI⟩ := hrel
        by_cases htl : t < 64
        · have gd : ∀ j, j < t → (spr p t ++ List.replicate (64 - t) 0).getD j 0 = (spr p t).getD j 0 := by
            intro j hj
            simp [List.getElem?_append, spr_len, hj]
          have hlen : (spr p t ++ List.replicate (64 - t) 0).length = 64 := by simp [spr_len]; omega
          have c2 := hI.2.1.get0 (t - 2) (by omega)
          have c15 := hI.2.1.get0 (t - 15) (by omega)
          have c7 := hI.2.1.get0 (t - 7) (by omega)
          have c16 := hI.2.1.get0 (t - 16) (by omega)
          have c0 := hI.2.1.get0 t (by omega)
          have f0 := hI.2.1.free0 t (by omega)
          rw [gd _ (by omega)] at c2 c15 c7 c16
          obtain ⟨z, hz⟩ : ∃ z, z = (spr p t ++ List.replicate (64 - t) 0).getD t 0 := ⟨_, rfl⟩
          rw [← hz] at c0
          clear hz
          obtain ⟨x2, h2⟩ : ∃ z, z = (spr p t).getD (t - 2) 0 := ⟨_, rfl⟩
          obtain ⟨x15, h15⟩ : ∃ z, z = (spr p t).getD (t - 15) 0 := ⟨_, rfl⟩
          obtain ⟨x7, h7⟩ : ∃ z, z = (spr p t).getD (t - 7) 0 := ⟨_, rfl⟩
          obtain ⟨x16, h16⟩ : ∃ z, z = (spr p t).getD (t - 16) 0 := ⟨_, rfl⟩
          rw [← h2] at c2
          rw [← h15] at c15
          rw [← h7] at c7
          rw [← h16] at c16
          have hn : nextW (spr p t) t = ad (ad (ad (sm1 x2) x7) (sm0 x15)) x16 := by rw [nextW, h2, h15, h7, h16]
          have HN := hide hn
          have HI2 := hide hI
          have HL := hide hlen
          clear hI hlen gd h2 h15 h7 h16 hn
          have e2 : ((t : Int) - 2).toNat = t - 2 := by omega
          have e15 : ((t : Int) - 15).toNat = t - 15 := by omega
          have e7 : ((t : Int) - 7).toNat = t - 7 := by omega
          have e16 : ((t : Int) - 16).toNat = t - 16 := by omega
          go_wp2
          go_quiet (fail)
          go_wp2_with (go_at_call 64; refine (hturned_any _ _ _ (by decide) (by decide)).mono ?_; rintro e w' ⟨rfl, rfl⟩)
          go_region
          go_wp2
          go_roundw
          case rel =>
            refine ⟨t + 1, by omega, by omega, by go_num, ?_⟩
            refine ((unhide HI2).drewN _).put t (by rw [unhide HL]; exact htl) _ ?_
            have e := fill_set (spr p t) 64 (nextW (spr p t) t) (by rw [spr_len]; exact htl)
            rw [spr_len] at e
            rw [spr, if_neg (by omega), ← e, unhide HN]
            congr 1
            simp only [ad, sm1, sm0, xr]
            omega
          case measure => simp [intOf]; omega
        · have e64 : t = 64 := by omega
          rw [e64] at hI
          simp only [Nat.sub_self, List.replicate_zero, List.append_nil] at hI
          obtain ⟨_, hA, hR, hB⟩ := hI
          clear e64
          have hr := hide hA.range
          have ht := hide hR.there
          have HB := hide hB
          clear hA hR hB
          go_wp2_with (first
            | (refine wpList_load_mid rfl 82 (.tmp 3) rfl (w.heap.size + 1 + 1) 0 rfl _ _ (unhide hr) Tryd.underlying82 rfl (by rw [size82]; simp [spr_len]) ?_)
            | (refine wpList_store_mid rfl 82 (.tmp 2) (.tmp 76) rfl (w.heap.size + 1) 0 _ rfl rfl (by simpa [spr_len] using unhide ht) (by rw [size82]; simp [spr_len]) (all_oneCell_toArray (by simp [Value.oneCell'])) ?_))
          have hld := run_loadVar_mid (P := Tryd.prog) _ (w.heap.size + 1) 0 82 _ _ (World.rangeAt_setCells_same wr (w.heap.size + 1) 0 ((spr p 64).map (Value.int .u32)) (by simpa [spr_len] using unhide ht)) Tryd.underlying82 rfl (by rw [size82]; simp [spr_len])
          refine bodyPost_ret (v := .agg ((spr p 64).map (Value.int .u32)).toArray) ?_ rfl ⟨rfl, below_setCells (by omega) _ _ (unhide HB)⟩
          exact results_cell rfl _ _ _ ⟨w.heap.size + 1, 0, none⟩ rfl _ hld
end Go.Proofs.YtilhilglokblpaaDoor
