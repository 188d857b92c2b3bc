import Derived.Test.YtclgkgaobjcifaaGreatDoorMy12
import Derived.Test.YtclgkgaobjcifaaGreatDoorMy14
namespace Go.Proofs.YtclgkgaobjcifaaGreatDoor
open Go.RowKit
set_option maxRecDepth 100000
theorem built_rep (k : Int) : Tryz.prog.built 34 [(0, .int .i64 k)] = some (Rep.bare k).cs := by kernel_rfl
theorem info3w : (Tryz.prog.info? 3).map (fun i => (i.zero, i.size, i.bytes)) = some (some (.int .i64 0), 1, 8) := by kernel_rfl
/-- a reply that may be: its lists lie in memory -/
structure GoodP (k : Int) (r : Rep) (V Pl : List Int) (w : World) : Prop where
  st : 0 ≤ r.st ∧ r.st ≤ 13
  ok : lyB k r V Pl = true
  vm : V.length = r.vm
  pm : Pl.length = r.pm
  m8 : r.vm ≤ 8 ∧ r.pm ≤ 8
  lv : Lst w w.heap.size r.vp V
  lp : Lst w w.heap.size r.pp Pl
/-- what the law's reply answers -/
def RpQ (k : Int) (e : Ending) (w' : World) : Prop := ∃ r V Pl, e = .returned (.agg (Rep.cs r)) ∧ GoodP k r V Pl w'
theorem RpQ.of {k : Int} {r : Rep} {V Pl : List Int} {w' : World} (h : GoodP k r V Pl w') : RpQ k (.returned (.agg r.cs)) w' := ⟨r, V, Pl, rfl, h⟩
theorem bareP_mk (st : Int) (vp : Option Addr) (vc : Nat) (pp : Option Addr) (pc : Nat) : bareP ⟨st, 0, 0, vp, 0, vc, 0, pp, 0, pc, ⟨#[]⟩, ⟨#[]⟩⟩ = true := decide_eq_true ⟨rfl, rfl, rfl, rfl, rfl, rfl, rfl⟩
theorem lyB_full {k : Int} {r : Rep} {V Pl : List Int} (h : fullP k r.st = true) : lyB k r V Pl = lgB k r V Pl := by rw [lyB, if_pos h]
theorem layG_ok {V Pl : List Int} {f : Fld} {fs : List Fld} {r : Rep} (h : okG f (exr f r Prt.nil).2 V Pl = true) : layG V Pl (f :: fs) r = (layG V Pl fs (exr f r Prt.nil).1).map (fun x => (x.1, byG f (exr f r Prt.nil).2 V Pl ++ x.2)) := by rw [layG, if_pos h]
theorem news_oneW (w : World) (T : TypeId) (u : Value) (q : Nat) (v : Value) (h : [u][q]? = some v) : (w.alloc (.cells #[u] T)).cell? (Addr.add ⟨w.heap.size, 0, none⟩ q) = some v := by
  have h1 := (Blk.new w T #[u]).cell q
  rw [Addr.add_mid, Nat.zero_add, h1]
  simpa using h
theorem own_lst {w : World} {N c : Nat} {p : Option Addr} {V : List Int} (h : w.ownsRow N 3 1 (.slice p V.length c) V.length (V.map (Value.int .i64))) : Lst w w.heap.size p V := by
  rcases h.2 with ⟨h1, h0⟩ | ⟨g, cap, cur, h1, hb, hg, hn, hc, hs, hx⟩
  · exact fun j hj => absurd hj (by omega)
  · have e : p = some ⟨g, 0, none⟩ := by simpa using (by injection h1 : p = some ⟨g, 0, none⟩)
    subst e
    have hB : Blk w g cur 3 := hg
    intro j hj
    refine ⟨g, 0, rfl, hB.lt, ?_⟩
    rw [hB.cell]
    have h2 : (cur.toList.take (V.length * 1))[j]? = (V.map (Value.int .i64))[j]? := by rw [hx]
    rw [List.getElem?_take, if_pos (by omega), List.getElem?_map, List.getElem?_eq_getElem hj] at h2
    rw [Nat.zero_add, List.getD_eq_getElem?_getD, List.getElem?_eq_getElem hj]
    simpa using h2
theorem own_onlyW {w w' : World} {P : Nat → Prop} {base : Nat} {e : TypeId} {s n : Nat} {v : Value} {xs : List Value} (h : w.ownsRow base e s v n xs) (ho : Only P w w') (hp : ∀ k, v.ownBlock = some k → ¬ P k) : w'.ownsRow base e s v n xs := owns_only h ho hp
theorem own_formW {w : World} {M n : Nat} {e : TypeId} {v : Value} {xs : List Value} (h : w.ownsRow M e 1 v n xs) : ∃ p c, v = .slice p n c := by
  rcases h.2 with ⟨e1, e0⟩ | ⟨g, cap, cur, e1, _⟩
  · subst e0
    exact ⟨none, 0, e1⟩
  · exact ⟨_, cap, e1⟩
theorem grown_onlyW {w w1 : World} {r : Option Nat} (h : w.grownBy w1 r) : Only (fun k => r = some k) w w1 := (Only.refl _ w).grown h (fun _ _ e => e)
set_option maxHeartbeats 4000000 in
theorem rp12_st {w : World} (k : Nat) (status a b : Int) (hst : I64 status) (ha : I64 a) (hb : I64 b) (p : Option Addr) (n c : Nat) (L : List Int) (hn : L.length = n) (hL : Lst w w.heap.size p L) (hI : ∀ j, I64 (L.getD j 0)) (hn9 : n ≤ 9223372036854775807) (s : ByteArray) (hs : s.size ≤ 140737488351232) (hk : k ≤ 12) (q : Nat) (hq : pickP status 14 = q) (hq0 : q ≠ 0) (h8 : ¬ (k = 8 ∧ q = 1)) :
    Calls Tryz.prog 13 #[.int .i64 (k : Int), .int .i64 status, .int .i64 a, .int .i64 b, .slice p n c, .string s] w fun e w' => RpQ (k : Int) e w' ∧ Below w.heap.size w w' := by
  have HU := hide (And.intro ha (And.intro hb (And.intro hs (And.intro hI (And.intro hk (And.intro hL (And.intro hn hn9)))))))
  clear HU
  clear ha hb hs hI
  have HPS := hide (fun W => pick12_any status 14 (by decide) hst 14 rfl W)
  have lst := pickP_lt status 14 (by decide)
  rw [hq] at HPS lst
  obtain ⟨B1, B2, hbl, hs2⟩ := two_boxes w #[.int .i64 0, .int .i64 0, .int .i64 0, .slice none 0 0, .int .i64 0, .slice none 0 0, .string ⟨#[]⟩, .string ⟨#[]⟩] #[.int .i64 0, .int .i64 0, .int .i64 0, .slice none 0 0, .int .i64 0, .slice none 0 0, .string ⟨#[]⟩, .string ⟨#[]⟩] 34 34
  obtain ⟨g, hg⟩ : ∃ g, w.heap.size = g := ⟨_, rfl⟩
  rw [hg] at B1 B2 hs2 hbl hL ⊢
  obtain ⟨y, hy⟩ : ∃ Z, (w.alloc (.cells #[.int .i64 0, .int .i64 0, .int .i64 0, .slice none 0 0, .int .i64 0, .slice none 0 0, .string ⟨#[]⟩, .string ⟨#[]⟩] 34)).alloc (.cells #[.int .i64 0, .int .i64 0, .int .i64 0, .slice none 0 0, .int .i64 0, .slice none 0 0, .string ⟨#[]⟩, .string ⟨#[]⟩] 34) = Z := ⟨_, rfl⟩
  rw [hy] at B1 B2 hbl hs2
  have C2 := blk_setRow (cells := (Rep.bare (q : Int)).cs) B2
  have C1 : Blk (y.setRow (g + 1) (Rep.bare (q : Int)).cs) g _ _ := blk_setRow_other B1 (by omega)
  have hO1 : Below g w (y.setRow (g + 1) (Rep.bare (q : Int)).cs) := below_setRow hbl (by omega) _
  have hS2 : g + 2 ≤ (y.setRow (g + 1) (Rep.bare (q : Int)).cs).heap.size := by have := (only_setRow (w := y) (P := fun j => j = g + 1) (g + 1) (Rep.bare (q : Int)).cs rfl).size; omega
  obtain ⟨y2, hy2⟩ : ∃ Z, y.setRow (g + 1) (Rep.bare (q : Int)).cs = Z := ⟨_, rfl⟩
  have HZ0 := hide B2
  rw [hy2] at C1 C2 hO1 hS2
  have HY := hide (show Blk y2 g #[.int .i64 0, .int .i64 0, .int .i64 0, .slice none 0 0, .int .i64 0, .slice none 0 0, .string ⟨#[]⟩, .string ⟨#[]⟩] 34 ∧ Blk y2 (g + 1) (Rep.bare (q : Int)).cs 34 ∧ Below g w y2 ∧ g + 2 ≤ y2.heap.size from ⟨C1, C2, hO1, hS2⟩)
  have HB0 := hide (built_rep (q : Int))
  have HO0 := hide (Rep.one (Rep.bare (q : Int)))
  have c0 : y2.cell? ⟨g + 1, 0, none⟩ = some (.int .i64 (q : Int)) := C2.cell 0
  clear B1 B2 hbl hs2 C1 C2 hO1 hst hS2
  have n0 : ((q : Int) != 0) = true := by simp; omega
  have HGD := hide (show lyB (k : Int) (Rep.bare (q : Int)) [] [] = true from by
    unfold lyB
    rw [if_neg]
    · exact bareP_mk _ _ _ _ _
    · intro h
      unfold fullP at h
      by_cases e : (k : Int) = 8
      · rw [if_pos e] at h
        have h9 : (q : Int) = 1 := of_decide_eq_true h
        exact h8 ⟨by omega, by omega⟩
      · rw [if_neg e] at h
        have h9 : (q : Int) = 0 := of_decide_eq_true h
        omega)
  clear hL hn hq
  by_cases hk8 : k = 8
  · subst hk8
    have n1 : ((q : Int) == 1) = false := by simp; omega
    simp only [Int.cast_ofNat_Int]
    go_enter Tryz.func13, Tryz.ntmps13
    go_wp2_with fail
    refine (unhide HPS _).mono ?_
    rintro e x ⟨rfl, hx⟩
    subst x
    have BT := blk_setRow (cells := (Rep.bare (q : Int)).cs) (unhide HY).1
    have HL0 := hide (iload_blk 34 _ BT Tryz.underlying34 rfl size_rep)
    have HRG := hide (show y2.rangeAt (g + 1) 0 (Rep.bare (q : Int)).cl from blk_range (unhide HY).2.1)
    have HZ := hide (unhide HY).1
    have HO := hide (Rep.one (Rep.bare (q : Int)))
    have HF := hide (show Below g w (y2.setRow g (Rep.bare (q : Int)).cs) from below_setRow (unhide HY).2.2.1 (Nat.le_refl _) _)
    have HG := hide (show GoodP ((8 : Nat) : Int) (Rep.bare (q : Int)) [] [] (y2.setRow g (Rep.bare (q : Int)).cs) from ⟨⟨by show (0 : Int) ≤ (q : Int); omega, by show (q : Int) ≤ 13; omega⟩, unhide HGD, rfl, rfl, ⟨Nat.zero_le _, Nat.zero_le _⟩, Lst.nil _ _ _, Lst.nil _ _ _⟩)
    clear BT
    go_wp2_with (first | refine wpList_buildAs rfl 34 #[(0, .tmp 19)] rfl _ rfl (Rep.bare (q : Int)).cs (unhide HB0) ?_ | refine wpList_store_row rfl 34 (.tmp 13) (.tmp 20) rfl (g + 1) (Rep.bare (q : Int)).cs rfl rfl 34 #[.int .i64 0, .int .i64 0, .int .i64 0, .slice none 0 0, .int .i64 0, .slice none 0 0, .string ⟨#[]⟩, .string ⟨#[]⟩] (unhide HZ0) size_rep rfl (unhide HO0) ?_ | refine wpList_load_mid rfl 34 (.tmp 13) rfl (g + 1) 0 rfl (Rep.bare (q : Int)).cl _ (unhide HRG) Tryz.underlying34 rfl size_rep ?_ | refine wpList_store_row rfl 34 (.tmp 12) (.tmp 54) rfl g (Rep.bare (q : Int)).cs rfl rfl 34 #[.int .i64 0, .int .i64 0, .int .i64 0, .slice none 0 0, .int .i64 0, .slice none 0 0, .string ⟨#[]⟩, .string ⟨#[]⟩] (unhide HZ) size_rep rfl (unhide HO) ?_)
    (try simp only [Exit.inBlock, Exit.then])
    refine bodyPost_ret (results_cell rfl _ _ _ ⟨g, 0, none⟩ rfl _ (unhide HL0)) rfl ?_
    exact ⟨RpQ.of (unhide HG), unhide HF⟩
  · have n1 : ((k : Int) == 8) = false := by simp; omega
    go_enter Tryz.func13, Tryz.ntmps13
    go_wp2_with fail
    refine (unhide HPS _).mono ?_
    rintro e x ⟨rfl, hx⟩
    subst x
    have BT := blk_setRow (cells := (Rep.bare (q : Int)).cs) (unhide HY).1
    have HL0 := hide (iload_blk 34 _ BT Tryz.underlying34 rfl size_rep)
    have HRG := hide (show y2.rangeAt (g + 1) 0 (Rep.bare (q : Int)).cl from blk_range (unhide HY).2.1)
    have HZ := hide (unhide HY).1
    have HO := hide (Rep.one (Rep.bare (q : Int)))
    have HF := hide (show Below g w (y2.setRow g (Rep.bare (q : Int)).cs) from below_setRow (unhide HY).2.2.1 (Nat.le_refl _) _)
    have HG := hide (show GoodP (k : Int) (Rep.bare (q : Int)) [] [] (y2.setRow g (Rep.bare (q : Int)).cs) from ⟨⟨by show (0 : Int) ≤ (q : Int); omega, by show (q : Int) ≤ 13; omega⟩, unhide HGD, rfl, rfl, ⟨Nat.zero_le _, Nat.zero_le _⟩, Lst.nil _ _ _, Lst.nil _ _ _⟩)
    clear BT
    go_wp2_with (first | refine wpList_buildAs rfl 34 #[(0, .tmp 19)] rfl _ rfl (Rep.bare (q : Int)).cs (unhide HB0) ?_ | refine wpList_store_row rfl 34 (.tmp 13) (.tmp 20) rfl (g + 1) (Rep.bare (q : Int)).cs rfl rfl 34 #[.int .i64 0, .int .i64 0, .int .i64 0, .slice none 0 0, .int .i64 0, .slice none 0 0, .string ⟨#[]⟩, .string ⟨#[]⟩] (unhide HZ0) size_rep rfl (unhide HO0) ?_ | refine wpList_load_mid rfl 34 (.tmp 13) rfl (g + 1) 0 rfl (Rep.bare (q : Int)).cl _ (unhide HRG) Tryz.underlying34 rfl size_rep ?_ | refine wpList_store_row rfl 34 (.tmp 12) (.tmp 54) rfl g (Rep.bare (q : Int)).cs rfl rfl 34 #[.int .i64 0, .int .i64 0, .int .i64 0, .slice none 0 0, .int .i64 0, .slice none 0 0, .string ⟨#[]⟩, .string ⟨#[]⟩] (unhide HZ) size_rep rfl (unhide HO) ?_)
    (try simp only [Exit.inBlock, Exit.then])
    refine bodyPost_ret (results_cell rfl _ _ _ ⟨g, 0, none⟩ rfl _ (unhide HL0)) rfl ?_
    exact ⟨RpQ.of (unhide HG), unhide HF⟩
set_option maxHeartbeats 4000000 in
theorem rp12_no {w : World} (k : Nat) (status a b : Int) (hst : I64 status) (ha : I64 a) (hb : I64 b) (p : Option Addr) (n c : Nat) (L : List Int) (hn : L.length = n) (hL : Lst w w.heap.size p L) (hI : ∀ j, I64 (L.getD j 0)) (hn9 : n ≤ 9223372036854775807) (s : ByteArray) (hs : s.size ≤ 140737488351232) (hk : k ≤ 12) (hq : pickP status 14 = 0) (h3 : k ≠ 3) (h6 : k ≠ 6) (h7 : k ≠ 7) (h11 : k ≠ 11) :
    Calls Tryz.prog 13 #[.int .i64 (k : Int), .int .i64 status, .int .i64 a, .int .i64 b, .slice p n c, .string s] w fun e w' => RpQ (k : Int) e w' ∧ Below w.heap.size w w' := by
  have HU := hide (And.intro ha (And.intro hb (And.intro hs (And.intro hI (And.intro hk (And.intro hL (And.intro hn hn9)))))))
  clear HU
  clear ha hb hs hI
  have HPS := hide (fun W => pick12_any status 14 (by decide) hst 14 rfl W)
  have lst := pickP_lt status 14 (by decide)
  simp only [hq, Int.cast_ofNat_Int] at HPS
  obtain ⟨B1, B2, hbl, hs2⟩ := two_boxes w #[.int .i64 0, .int .i64 0, .int .i64 0, .slice none 0 0, .int .i64 0, .slice none 0 0, .string ⟨#[]⟩, .string ⟨#[]⟩] #[.int .i64 0, .int .i64 0, .int .i64 0, .slice none 0 0, .int .i64 0, .slice none 0 0, .string ⟨#[]⟩, .string ⟨#[]⟩] 34 34
  obtain ⟨g, hg⟩ : ∃ g, w.heap.size = g := ⟨_, rfl⟩
  rw [hg] at B1 B2 hs2 hbl hL ⊢
  obtain ⟨y, hy⟩ : ∃ Z, (w.alloc (.cells #[.int .i64 0, .int .i64 0, .int .i64 0, .slice none 0 0, .int .i64 0, .slice none 0 0, .string ⟨#[]⟩, .string ⟨#[]⟩] 34)).alloc (.cells #[.int .i64 0, .int .i64 0, .int .i64 0, .slice none 0 0, .int .i64 0, .slice none 0 0, .string ⟨#[]⟩, .string ⟨#[]⟩] 34) = Z := ⟨_, rfl⟩
  rw [hy] at B1 B2 hbl hs2
  have C2 := blk_setRow (cells := (Rep.bare 0).cs) B2
  have C1 : Blk (y.setRow (g + 1) (Rep.bare 0).cs) g _ _ := blk_setRow_other B1 (by omega)
  have hO1 : Below g w (y.setRow (g + 1) (Rep.bare 0).cs) := below_setRow hbl (by omega) _
  have hS2 : g + 2 ≤ (y.setRow (g + 1) (Rep.bare 0).cs).heap.size := by have := (only_setRow (w := y) (P := fun j => j = g + 1) (g + 1) (Rep.bare 0).cs rfl).size; omega
  obtain ⟨y2, hy2⟩ : ∃ Z, y.setRow (g + 1) (Rep.bare 0).cs = Z := ⟨_, rfl⟩
  have HZ0 := hide B2
  rw [hy2] at C1 C2 hO1 hS2
  have HY := hide (show Blk y2 g #[.int .i64 0, .int .i64 0, .int .i64 0, .slice none 0 0, .int .i64 0, .slice none 0 0, .string ⟨#[]⟩, .string ⟨#[]⟩] 34 ∧ Blk y2 (g + 1) (Rep.bare 0).cs 34 ∧ Below g w y2 ∧ g + 2 ≤ y2.heap.size from ⟨C1, C2, hO1, hS2⟩)
  have HB0 := hide (built_rep 0)
  have HO0 := hide (Rep.one (Rep.bare 0))
  have c0 : y2.cell? ⟨g + 1, 0, none⟩ = some (.int .i64 0) := C2.cell 0
  clear B1 B2 hbl hs2 C1 C2 hO1 hst hS2
  have HGD := hide (show lyB (k : Int) (Rep.bare 0) [] [] = true from by
    unfold lyB
    by_cases h8 : k = 8
    · subst h8
      rw [if_neg (by decide)]
      rfl
    · rw [if_pos (by unfold fullP; rw [if_neg (by omega)]; rfl)]
      unfold lgB
      have e : rpF (k : Int) = [] := by
        unfold rpF
        rw [if_neg (by omega), if_neg (by omega), if_neg (by omega), if_neg (by omega), if_neg (by omega)]
      rw [e]
      rfl)
  have m3 : ((k : Int) == 3) = false := by simp; omega
  have m6 : ((k : Int) == 6) = false := by simp; omega
  have m7 : ((k : Int) == 7) = false := by simp; omega
  have m11 : ((k : Int) == 11) = false := by simp; omega
  clear hL hn hq
  by_cases hk8 : k = 8
  · subst hk8
    simp only [Int.cast_ofNat_Int] at m3 m6 m7 m11 ⊢
    go_enter Tryz.func13, Tryz.ntmps13
    go_wp2_with fail
    refine (unhide HPS _).mono ?_
    rintro e x ⟨rfl, hx⟩
    subst x
    have BT := blk_setRow (cells := (Rep.bare 0).cs) (unhide HY).1
    have HL0 := hide (iload_blk 34 _ BT Tryz.underlying34 rfl size_rep)
    have HRG := hide (show y2.rangeAt (g + 1) 0 (Rep.bare 0).cl from blk_range (unhide HY).2.1)
    have HZ := hide (unhide HY).1
    have HO := hide (Rep.one (Rep.bare 0))
    have HF := hide (show Below g w (y2.setRow g (Rep.bare 0).cs) from below_setRow (unhide HY).2.2.1 (Nat.le_refl _) _)
    have HG := hide (show GoodP ((8 : Nat) : Int) (Rep.bare 0) [] [] (y2.setRow g (Rep.bare 0).cs) from ⟨⟨by show (0 : Int) ≤ 0; decide, by show (0 : Int) ≤ 13; decide⟩, unhide HGD, rfl, rfl, ⟨Nat.zero_le _, Nat.zero_le _⟩, Lst.nil _ _ _, Lst.nil _ _ _⟩)
    clear BT
    go_wp2_with (first | refine wpList_buildAs rfl 34 #[(0, .tmp 19)] rfl _ rfl (Rep.bare 0).cs (unhide HB0) ?_ | refine wpList_store_row rfl 34 (.tmp 13) (.tmp 20) rfl (g + 1) (Rep.bare 0).cs rfl rfl 34 #[.int .i64 0, .int .i64 0, .int .i64 0, .slice none 0 0, .int .i64 0, .slice none 0 0, .string ⟨#[]⟩, .string ⟨#[]⟩] (unhide HZ0) size_rep rfl (unhide HO0) ?_ | refine wpList_load_mid rfl 34 (.tmp 13) rfl (g + 1) 0 rfl (Rep.bare 0).cl _ (unhide HRG) Tryz.underlying34 rfl size_rep ?_ | refine wpList_store_row rfl 34 (.tmp 12) (.tmp 105) rfl g (Rep.bare 0).cs rfl rfl 34 #[.int .i64 0, .int .i64 0, .int .i64 0, .slice none 0 0, .int .i64 0, .slice none 0 0, .string ⟨#[]⟩, .string ⟨#[]⟩] (unhide HZ) size_rep rfl (unhide HO) ?_)
    (try simp only [Exit.inBlock, Exit.then])
    refine bodyPost_ret (results_cell rfl _ _ _ ⟨g, 0, none⟩ rfl _ (unhide HL0)) rfl ?_
    exact ⟨RpQ.of (unhide HG), unhide HF⟩
  · have n1 : ((k : Int) == 8) = false := by simp; omega
    go_enter Tryz.func13, Tryz.ntmps13
    go_wp2_with fail
    refine (unhide HPS _).mono ?_
    rintro e x ⟨rfl, hx⟩
    subst x
    have BT := blk_setRow (cells := (Rep.bare 0).cs) (unhide HY).1
    have HL0 := hide (iload_blk 34 _ BT Tryz.underlying34 rfl size_rep)
    have HRG := hide (show y2.rangeAt (g + 1) 0 (Rep.bare 0).cl from blk_range (unhide HY).2.1)
    have HZ := hide (unhide HY).1
    have HO := hide (Rep.one (Rep.bare 0))
    have HF := hide (show Below g w (y2.setRow g (Rep.bare 0).cs) from below_setRow (unhide HY).2.2.1 (Nat.le_refl _) _)
    have HG := hide (show GoodP (k : Int) (Rep.bare 0) [] [] (y2.setRow g (Rep.bare 0).cs) from ⟨⟨by show (0 : Int) ≤ 0; decide, by show (0 : Int) ≤ 13; decide⟩, unhide HGD, rfl, rfl, ⟨Nat.zero_le _, Nat.zero_le _⟩, Lst.nil _ _ _, Lst.nil _ _ _⟩)
    clear BT
    go_wp2_with (first | refine wpList_buildAs rfl 34 #[(0, .tmp 19)] rfl _ rfl (Rep.bare 0).cs (unhide HB0) ?_ | refine wpList_store_row rfl 34 (.tmp 13) (.tmp 20) rfl (g + 1) (Rep.bare 0).cs rfl rfl 34 #[.int .i64 0, .int .i64 0, .int .i64 0, .slice none 0 0, .int .i64 0, .slice none 0 0, .string ⟨#[]⟩, .string ⟨#[]⟩] (unhide HZ0) size_rep rfl (unhide HO0) ?_ | refine wpList_load_mid rfl 34 (.tmp 13) rfl (g + 1) 0 rfl (Rep.bare 0).cl _ (unhide HRG) Tryz.underlying34 rfl size_rep ?_ | refine wpList_store_row rfl 34 (.tmp 12) (.tmp 105) rfl g (Rep.bare 0).cs rfl rfl 34 #[.int .i64 0, .int .i64 0, .int .i64 0, .slice none 0 0, .int .i64 0, .slice none 0 0, .string ⟨#[]⟩, .string ⟨#[]⟩] (unhide HZ) size_rep rfl (unhide HO) ?_)
    (try simp only [Exit.inBlock, Exit.then])
    refine bodyPost_ret (results_cell rfl _ _ _ ⟨g, 0, none⟩ rfl _ (unhide HL0)) rfl ?_
    exact ⟨RpQ.of (unhide HG), unhide HF⟩
set_option maxHeartbeats 4000000 in
theorem rp12_7 {w : World} (k : Nat) (status a b : Int) (hst : I64 status) (ha : I64 a) (hb : I64 b) (p : Option Addr) (n c : Nat) (L : List Int) (hn : L.length = n) (hL : Lst w w.heap.size p L) (hI : ∀ j, I64 (L.getD j 0)) (hn9 : n ≤ 9223372036854775807) (s : ByteArray) (hs : s.size ≤ 140737488351232) (hk : k ≤ 12) (hq : pickP status 14 = 0) (h7 : k = 7) :
    Calls Tryz.prog 13 #[.int .i64 (k : Int), .int .i64 status, .int .i64 a, .int .i64 b, .slice p n c, .string s] w fun e w' => RpQ (k : Int) e w' ∧ Below w.heap.size w w' := by
  have HU := hide (And.intro ha (And.intro hb (And.intro hs (And.intro hI (And.intro hk (And.intro hL (And.intro hn hn9)))))))
  clear HU
  subst h7
  have HP0 := hide (fun W => pick12_any a 65536 (by decide) ha 65536 rfl W)
  have l0 := pickP_lt a 65536 (by decide)
  have HP1 := hide (fun W => pick12_any b 65536 (by decide) hb 65536 rfl W)
  have l1 := pickP_lt b 65536 (by decide)
  generalize pickP a 65536 = p0 at *
  generalize pickP b 65536 = p1 at *
  clear ha hb hs hI
  have HPS := hide (fun W => pick12_any status 14 (by decide) hst 14 rfl W)
  have lst := pickP_lt status 14 (by decide)
  simp only [hq, Int.cast_ofNat_Int] at HPS
  obtain ⟨B1, B2, hbl, hs2⟩ := two_boxes w #[.int .i64 0, .int .i64 0, .int .i64 0, .slice none 0 0, .int .i64 0, .slice none 0 0, .string ⟨#[]⟩, .string ⟨#[]⟩] #[.int .i64 0, .int .i64 0, .int .i64 0, .slice none 0 0, .int .i64 0, .slice none 0 0, .string ⟨#[]⟩, .string ⟨#[]⟩] 34 34
  obtain ⟨g, hg⟩ : ∃ g, w.heap.size = g := ⟨_, rfl⟩
  rw [hg] at B1 B2 hs2 hbl hL ⊢
  obtain ⟨y, hy⟩ : ∃ Z, (w.alloc (.cells #[.int .i64 0, .int .i64 0, .int .i64 0, .slice none 0 0, .int .i64 0, .slice none 0 0, .string ⟨#[]⟩, .string ⟨#[]⟩] 34)).alloc (.cells #[.int .i64 0, .int .i64 0, .int .i64 0, .slice none 0 0, .int .i64 0, .slice none 0 0, .string ⟨#[]⟩, .string ⟨#[]⟩] 34) = Z := ⟨_, rfl⟩
  rw [hy] at B1 B2 hbl hs2
  have C2 := blk_setRow (cells := (Rep.bare 0).cs) B2
  have C1 : Blk (y.setRow (g + 1) (Rep.bare 0).cs) g _ _ := blk_setRow_other B1 (by omega)
  have hO1 : Below g w (y.setRow (g + 1) (Rep.bare 0).cs) := below_setRow hbl (by omega) _
  have hS2 : g + 2 ≤ (y.setRow (g + 1) (Rep.bare 0).cs).heap.size := by have := (only_setRow (w := y) (P := fun j => j = g + 1) (g + 1) (Rep.bare 0).cs rfl).size; omega
  obtain ⟨y2, hy2⟩ : ∃ Z, y.setRow (g + 1) (Rep.bare 0).cs = Z := ⟨_, rfl⟩
  have HZ0 := hide B2
  rw [hy2] at C1 C2 hO1 hS2
  have HY := hide (show Blk y2 g #[.int .i64 0, .int .i64 0, .int .i64 0, .slice none 0 0, .int .i64 0, .slice none 0 0, .string ⟨#[]⟩, .string ⟨#[]⟩] 34 ∧ Blk y2 (g + 1) (Rep.bare 0).cs 34 ∧ Below g w y2 ∧ g + 2 ≤ y2.heap.size from ⟨C1, C2, hO1, hS2⟩)
  have HB0 := hide (built_rep 0)
  have HO0 := hide (Rep.one (Rep.bare 0))
  have c0 : y2.cell? ⟨g + 1, 0, none⟩ = some (.int .i64 0) := C2.cell 0
  clear B1 B2 hbl hs2 C1 C2 hO1 hst hS2
  clear hL hn hq
  simp only [Int.cast_ofNat_Int]
  go_enter Tryz.func13, Tryz.ntmps13
  go_wp2_with fail
  refine (unhide HPS _).mono ?_
  rintro e x ⟨rfl, hx⟩
  subst x
  go_wp2_with (first | refine wpList_buildAs rfl 34 #[(0, .tmp 19)] rfl _ rfl (Rep.bare 0).cs (unhide HB0) ?_ | refine wpList_store_row rfl 34 (.tmp 13) (.tmp 20) rfl (g + 1) (Rep.bare 0).cs rfl rfl 34 #[.int .i64 0, .int .i64 0, .int .i64 0, .slice none 0 0, .int .i64 0, .slice none 0 0, .string ⟨#[]⟩, .string ⟨#[]⟩] (unhide HZ0) size_rep rfl (unhide HO0) ?_)
  refine (unhide HP0 _).mono ?_
  rintro e x ⟨rfl, hx⟩
  subst x
  clear hy hy2
  have cf0 : y2.cell? ⟨g + 1, 1, none⟩ = some (.int .i64 0) := by rw [(unhide HY).2.1.cell]; rfl
  have ff0 : y2.frozen? ⟨g + 1, 1, none⟩ = false := (unhide HY).2.1.frozen 1
  obtain ⟨y3, hy3⟩ : ∃ Z, y2.setCell ⟨g + 1, 1, none⟩ (.int .i64 (p0 : Int)) = Z := ⟨_, rfl⟩
  have HY1 := hide (show Blk y3 g #[.int .i64 0, .int .i64 0, .int .i64 0, .slice none 0 0, .int .i64 0, .slice none 0 0, .string ⟨#[]⟩, .string ⟨#[]⟩] 34 ∧ Blk y3 (g + 1) (⟨0, (p0 : Int), 0, none, 0, 0, 0, none, 0, 0, ⟨#[]⟩, ⟨#[]⟩⟩ : Rep).cs 34 ∧ Below g w y3 ∧ g + 2 ≤ y3.heap.size from by
    rw [← hy3]
    obtain ⟨q1, q2, q3, q4⟩ := unhide HY
    exact ⟨q1.other _ _ (by show g + 1 ≠ g; omega), q2.set 1 (.int .i64 (p0 : Int)), q3.setCell (by show g ≤ g + 1; omega) _, by simpa using q4⟩)
  go_wp2_with fail
  refine (unhide HP1 _).mono ?_
  rintro e x ⟨rfl, hx⟩
  subst x
  have cf1 : y3.cell? ⟨g + 1, 2, none⟩ = some (.int .i64 0) := by rw [(unhide HY1).2.1.cell]; rfl
  have ff1 : y3.frozen? ⟨g + 1, 2, none⟩ = false := (unhide HY1).2.1.frozen 2
  obtain ⟨y4, hy4⟩ : ∃ Z, y3.setCell ⟨g + 1, 2, none⟩ (.int .i64 (p1 : Int)) = Z := ⟨_, rfl⟩
  have HY2 := hide (show Blk y4 g #[.int .i64 0, .int .i64 0, .int .i64 0, .slice none 0 0, .int .i64 0, .slice none 0 0, .string ⟨#[]⟩, .string ⟨#[]⟩] 34 ∧ Blk y4 (g + 1) (⟨0, (p0 : Int), (p1 : Int), none, 0, 0, 0, none, 0, 0, ⟨#[]⟩, ⟨#[]⟩⟩ : Rep).cs 34 ∧ Below g w y4 ∧ g + 2 ≤ y4.heap.size from by
    rw [← hy4]
    obtain ⟨q1, q2, q3, q4⟩ := unhide HY1
    exact ⟨q1.other _ _ (by show g + 1 ≠ g; omega), q2.set 2 (.int .i64 (p1 : Int)), q3.setCell (by show g ≤ g + 1; omega) _, by simpa using q4⟩)
  have BT := blk_setRow (cells := (⟨0, (p0 : Int), (p1 : Int), none, 0, 0, 0, none, 0, 0, ⟨#[]⟩, ⟨#[]⟩⟩ : Rep).cs) (unhide HY2).1
  have HL0 := hide (iload_blk 34 _ BT Tryz.underlying34 rfl size_rep)
  have HRG := hide (show y4.rangeAt (g + 1) 0 (⟨0, (p0 : Int), (p1 : Int), none, 0, 0, 0, none, 0, 0, ⟨#[]⟩, ⟨#[]⟩⟩ : Rep).cl from blk_range (unhide HY2).2.1)
  have HZ := hide (unhide HY2).1
  have HO := hide (Rep.one (⟨0, (p0 : Int), (p1 : Int), none, 0, 0, 0, none, 0, 0, ⟨#[]⟩, ⟨#[]⟩⟩ : Rep))
  have HF := hide (show Below g w (y4.setRow g (⟨0, (p0 : Int), (p1 : Int), none, 0, 0, 0, none, 0, 0, ⟨#[]⟩, ⟨#[]⟩⟩ : Rep).cs) from below_setRow (unhide HY2).2.2.1 (Nat.le_refl _) _)
  have HG := hide (show GoodP ((7 : Nat) : Int) (⟨0, (p0 : Int), (p1 : Int), none, 0, 0, 0, none, 0, 0, ⟨#[]⟩, ⟨#[]⟩⟩ : Rep) [] [] (y4.setRow g (⟨0, (p0 : Int), (p1 : Int), none, 0, 0, 0, none, 0, 0, ⟨#[]⟩, ⟨#[]⟩⟩ : Rep).cs) from ⟨⟨by show (0 : Int) ≤ 0; decide, by show (0 : Int) ≤ 13; decide⟩, by
    rw [lyB_full (k := ((7 : Nat) : Int)) (r := (⟨0, (p0 : Int), (p1 : Int), none, 0, 0, 0, none, 0, 0, ⟨#[]⟩, ⟨#[]⟩⟩ : Rep)) rfl]
    unfold lgB
    rw [show rpF ((7 : Nat) : Int) = [fQuo, fCha] from rfl, layG_ok (f := fQuo) (r := (⟨0, (p0 : Int), (p1 : Int), none, 0, 0, 0, none, 0, 0, ⟨#[]⟩, ⟨#[]⟩⟩ : Rep)) (decide_eq_true (p := ((0 : Nat) : Int) ≤ (p0 : Int) ∧ (p0 : Int) ≤ ((65535 : Nat) : Int)) ⟨by omega, by omega⟩), layG_ok (f := fCha) (r := (exr fQuo (⟨0, (p0 : Int), (p1 : Int), none, 0, 0, 0, none, 0, 0, ⟨#[]⟩, ⟨#[]⟩⟩ : Rep) Prt.nil).1) (decide_eq_true (p := ((0 : Nat) : Int) ≤ (p1 : Int) ∧ (p1 : Int) ≤ ((65535 : Nat) : Int)) ⟨by omega, by omega⟩)]
    exact bareP_mk _ _ _ _ _, rfl, rfl, ⟨Nat.zero_le _, Nat.zero_le _⟩, Lst.nil _ _ _, Lst.nil _ _ _⟩)
  clear BT
  go_wp2_with (first | refine wpList_load_mid rfl 34 (.tmp 13) rfl (g + 1) 0 rfl (⟨0, (p0 : Int), (p1 : Int), none, 0, 0, 0, none, 0, 0, ⟨#[]⟩, ⟨#[]⟩⟩ : Rep).cl _ (unhide HRG) Tryz.underlying34 rfl size_rep ?_ | refine wpList_store_row rfl 34 (.tmp 12) (.tmp 105) rfl g (⟨0, (p0 : Int), (p1 : Int), none, 0, 0, 0, none, 0, 0, ⟨#[]⟩, ⟨#[]⟩⟩ : Rep).cs rfl rfl 34 #[.int .i64 0, .int .i64 0, .int .i64 0, .slice none 0 0, .int .i64 0, .slice none 0 0, .string ⟨#[]⟩, .string ⟨#[]⟩] (unhide HZ) size_rep rfl (unhide HO) ?_)
  (try simp only [Exit.inBlock, Exit.then])
  refine bodyPost_ret (results_cell rfl _ _ _ ⟨g, 0, none⟩ rfl _ (unhide HL0)) rfl ?_
  exact ⟨RpQ.of (unhide HG), unhide HF⟩
set_option maxHeartbeats 4000000 in
theorem rp12_11 {w : World} (k : Nat) (status a b : Int) (hst : I64 status) (ha : I64 a) (hb : I64 b) (p : Option Addr) (n c : Nat) (L : List Int) (hn : L.length = n) (hL : Lst w w.heap.size p L) (hI : ∀ j, I64 (L.getD j 0)) (hn9 : n ≤ 9223372036854775807) (s : ByteArray) (hs : s.size ≤ 140737488351232) (hk : k ≤ 12) (hq : pickP status 14 = 0) (h11 : k = 11) :
    Calls Tryz.prog 13 #[.int .i64 (k : Int), .int .i64 status, .int .i64 a, .int .i64 b, .slice p n c, .string s] w fun e w' => RpQ (k : Int) e w' ∧ Below w.heap.size w w' := by
  have HU := hide (And.intro ha (And.intro hb (And.intro hs (And.intro hI (And.intro hk (And.intro hL (And.intro hn hn9)))))))
  clear HU
  subst h11
  have HP0 := hide (fun W => sized12_any s hs 48 (by decide) 48 rfl W)
  have HP1 := hide (fun W => sized12_any s hs 256 (by decide) 256 rfl W)
  clear ha hb hs hI
  have HPS := hide (fun W => pick12_any status 14 (by decide) hst 14 rfl W)
  have lst := pickP_lt status 14 (by decide)
  simp only [hq, Int.cast_ofNat_Int] at HPS
  obtain ⟨B1, B2, hbl, hs2⟩ := two_boxes w #[.int .i64 0, .int .i64 0, .int .i64 0, .slice none 0 0, .int .i64 0, .slice none 0 0, .string ⟨#[]⟩, .string ⟨#[]⟩] #[.int .i64 0, .int .i64 0, .int .i64 0, .slice none 0 0, .int .i64 0, .slice none 0 0, .string ⟨#[]⟩, .string ⟨#[]⟩] 34 34
  obtain ⟨g, hg⟩ : ∃ g, w.heap.size = g := ⟨_, rfl⟩
  rw [hg] at B1 B2 hs2 hbl hL ⊢
  obtain ⟨y, hy⟩ : ∃ Z, (w.alloc (.cells #[.int .i64 0, .int .i64 0, .int .i64 0, .slice none 0 0, .int .i64 0, .slice none 0 0, .string ⟨#[]⟩, .string ⟨#[]⟩] 34)).alloc (.cells #[.int .i64 0, .int .i64 0, .int .i64 0, .slice none 0 0, .int .i64 0, .slice none 0 0, .string ⟨#[]⟩, .string ⟨#[]⟩] 34) = Z := ⟨_, rfl⟩
  rw [hy] at B1 B2 hbl hs2
  have C2 := blk_setRow (cells := (Rep.bare 0).cs) B2
  have C1 : Blk (y.setRow (g + 1) (Rep.bare 0).cs) g _ _ := blk_setRow_other B1 (by omega)
  have hO1 : Below g w (y.setRow (g + 1) (Rep.bare 0).cs) := below_setRow hbl (by omega) _
  have hS2 : g + 2 ≤ (y.setRow (g + 1) (Rep.bare 0).cs).heap.size := by have := (only_setRow (w := y) (P := fun j => j = g + 1) (g + 1) (Rep.bare 0).cs rfl).size; omega
  obtain ⟨y2, hy2⟩ : ∃ Z, y.setRow (g + 1) (Rep.bare 0).cs = Z := ⟨_, rfl⟩
  have HZ0 := hide B2
  rw [hy2] at C1 C2 hO1 hS2
  have HY := hide (show Blk y2 g #[.int .i64 0, .int .i64 0, .int .i64 0, .slice none 0 0, .int .i64 0, .slice none 0 0, .string ⟨#[]⟩, .string ⟨#[]⟩] 34 ∧ Blk y2 (g + 1) (Rep.bare 0).cs 34 ∧ Below g w y2 ∧ g + 2 ≤ y2.heap.size from ⟨C1, C2, hO1, hS2⟩)
  have HB0 := hide (built_rep 0)
  have HO0 := hide (Rep.one (Rep.bare 0))
  have c0 : y2.cell? ⟨g + 1, 0, none⟩ = some (.int .i64 0) := C2.cell 0
  clear B1 B2 hbl hs2 C1 C2 hO1 hst hS2
  clear hL hn hq
  simp only [Int.cast_ofNat_Int]
  go_enter Tryz.func13, Tryz.ntmps13
  go_wp2_with fail
  refine (unhide HPS _).mono ?_
  rintro e x ⟨rfl, hx⟩
  subst x
  go_wp2_with (first | refine wpList_buildAs rfl 34 #[(0, .tmp 19)] rfl _ rfl (Rep.bare 0).cs (unhide HB0) ?_ | refine wpList_store_row rfl 34 (.tmp 13) (.tmp 20) rfl (g + 1) (Rep.bare 0).cs rfl rfl 34 #[.int .i64 0, .int .i64 0, .int .i64 0, .slice none 0 0, .int .i64 0, .slice none 0 0, .string ⟨#[]⟩, .string ⟨#[]⟩] (unhide HZ0) size_rep rfl (unhide HO0) ?_)
  refine (unhide HP0 _).mono ?_
  rintro e x ⟨⟨t0, rfl, ht0⟩, hx⟩
  subst x
  clear hy hy2
  have cf0 : y2.cell? ⟨g + 1, 6, none⟩ = some (.string ⟨#[]⟩) := by rw [(unhide HY).2.1.cell]; rfl
  have ff0 : y2.frozen? ⟨g + 1, 6, none⟩ = false := (unhide HY).2.1.frozen 6
  obtain ⟨y3, hy3⟩ : ∃ Z, y2.setCell ⟨g + 1, 6, none⟩ (.string t0) = Z := ⟨_, rfl⟩
  have HY1 := hide (show Blk y3 g #[.int .i64 0, .int .i64 0, .int .i64 0, .slice none 0 0, .int .i64 0, .slice none 0 0, .string ⟨#[]⟩, .string ⟨#[]⟩] 34 ∧ Blk y3 (g + 1) (⟨0, 0, 0, none, 0, 0, 0, none, 0, 0, t0, ⟨#[]⟩⟩ : Rep).cs 34 ∧ Below g w y3 ∧ g + 2 ≤ y3.heap.size from by
    rw [← hy3]
    obtain ⟨q1, q2, q3, q4⟩ := unhide HY
    exact ⟨q1.other _ _ (by show g + 1 ≠ g; omega), q2.set 6 (.string t0), q3.setCell (by show g ≤ g + 1; omega) _, by simpa using q4⟩)
  go_wp2_with fail
  refine (unhide HP1 _).mono ?_
  rintro e x ⟨⟨t1, rfl, ht1⟩, hx⟩
  subst x
  have cf1 : y3.cell? ⟨g + 1, 7, none⟩ = some (.string ⟨#[]⟩) := by rw [(unhide HY1).2.1.cell]; rfl
  have ff1 : y3.frozen? ⟨g + 1, 7, none⟩ = false := (unhide HY1).2.1.frozen 7
  obtain ⟨y4, hy4⟩ : ∃ Z, y3.setCell ⟨g + 1, 7, none⟩ (.string t1) = Z := ⟨_, rfl⟩
  have HY2 := hide (show Blk y4 g #[.int .i64 0, .int .i64 0, .int .i64 0, .slice none 0 0, .int .i64 0, .slice none 0 0, .string ⟨#[]⟩, .string ⟨#[]⟩] 34 ∧ Blk y4 (g + 1) (⟨0, 0, 0, none, 0, 0, 0, none, 0, 0, t0, t1⟩ : Rep).cs 34 ∧ Below g w y4 ∧ g + 2 ≤ y4.heap.size from by
    rw [← hy4]
    obtain ⟨q1, q2, q3, q4⟩ := unhide HY1
    exact ⟨q1.other _ _ (by show g + 1 ≠ g; omega), q2.set 7 (.string t1), q3.setCell (by show g ≤ g + 1; omega) _, by simpa using q4⟩)
  have BT := blk_setRow (cells := (⟨0, 0, 0, none, 0, 0, 0, none, 0, 0, t0, t1⟩ : Rep).cs) (unhide HY2).1
  have HL0 := hide (iload_blk 34 _ BT Tryz.underlying34 rfl size_rep)
  have HRG := hide (show y4.rangeAt (g + 1) 0 (⟨0, 0, 0, none, 0, 0, 0, none, 0, 0, t0, t1⟩ : Rep).cl from blk_range (unhide HY2).2.1)
  have HZ := hide (unhide HY2).1
  have HO := hide (Rep.one (⟨0, 0, 0, none, 0, 0, 0, none, 0, 0, t0, t1⟩ : Rep))
  have HF := hide (show Below g w (y4.setRow g (⟨0, 0, 0, none, 0, 0, 0, none, 0, 0, t0, t1⟩ : Rep).cs) from below_setRow (unhide HY2).2.2.1 (Nat.le_refl _) _)
  have HG := hide (show GoodP ((11 : Nat) : Int) (⟨0, 0, 0, none, 0, 0, 0, none, 0, 0, t0, t1⟩ : Rep) [] [] (y4.setRow g (⟨0, 0, 0, none, 0, 0, 0, none, 0, 0, t0, t1⟩ : Rep).cs) from ⟨⟨by show (0 : Int) ≤ 0; decide, by show (0 : Int) ≤ 13; decide⟩, by
    rw [lyB_full (k := ((11 : Nat) : Int)) (r := (⟨0, 0, 0, none, 0, 0, 0, none, 0, 0, t0, t1⟩ : Rep)) rfl]
    unfold lgB
    rw [show rpF ((11 : Nat) : Int) = [fWra, fDat] from rfl, layG_ok (f := fWra) (r := (⟨0, 0, 0, none, 0, 0, 0, none, 0, 0, t0, t1⟩ : Rep)) (decide_eq_true (p := t0.size = 48) ht0), layG_ok (f := fDat) (r := (exr fWra (⟨0, 0, 0, none, 0, 0, 0, none, 0, 0, t0, t1⟩ : Rep) Prt.nil).1) (decide_eq_true (p := t1.size = 256) ht1)]
    exact bareP_mk _ _ _ _ _, rfl, rfl, ⟨Nat.zero_le _, Nat.zero_le _⟩, Lst.nil _ _ _, Lst.nil _ _ _⟩)
  clear BT
  go_wp2_with (first | refine wpList_load_mid rfl 34 (.tmp 13) rfl (g + 1) 0 rfl (⟨0, 0, 0, none, 0, 0, 0, none, 0, 0, t0, t1⟩ : Rep).cl _ (unhide HRG) Tryz.underlying34 rfl size_rep ?_ | refine wpList_store_row rfl 34 (.tmp 12) (.tmp 105) rfl g (⟨0, 0, 0, none, 0, 0, 0, none, 0, 0, t0, t1⟩ : Rep).cs rfl rfl 34 #[.int .i64 0, .int .i64 0, .int .i64 0, .slice none 0 0, .int .i64 0, .slice none 0 0, .string ⟨#[]⟩, .string ⟨#[]⟩] (unhide HZ) size_rep rfl (unhide HO) ?_)
  (try simp only [Exit.inBlock, Exit.then])
  refine bodyPost_ret (results_cell rfl _ _ _ ⟨g, 0, none⟩ rfl _ (unhide HL0)) rfl ?_
  exact ⟨RpQ.of (unhide HG), unhide HF⟩
/-- the numbers of volumes that the law makes -/
def lastV (V : List Int) : Int := V.getD (V.length - 1) 0
def VOk (V : List Int) : Prop := ∀ j, j < V.length → (1 ≤ V.getD j 0 ∧ V.getD j 0 ≤ 11 * ((j : Int) + 1)) ∧ (0 < j → V.getD (j - 1) 0 < V.getD j 0)
theorem getD_snoc_old {V : List Int} {x : Int} {j : Nat} (h : j < V.length) : (V ++ [x]).getD j 0 = V.getD j 0 := by
  rw [List.getD_eq_getElem?_getD, List.getD_eq_getElem?_getD, List.getElem?_append_left h]
theorem getD_snoc_new {V : List Int} {x : Int} : (V ++ [x]).getD V.length 0 = x := by
  rw [List.getD_eq_getElem?_getD, List.getElem?_append_right (Nat.le_refl _), Nat.sub_self]
  rfl
theorem lastV_snoc (V : List Int) (x : Int) : lastV (V ++ [x]) = x := by
  rw [lastV, List.length_append]
  exact getD_snoc_new
theorem VOk.last {V : List Int} (h : VOk V) : 0 ≤ lastV V ∧ lastV V ≤ 11 * (V.length : Int) := by
  rcases Nat.eq_zero_or_pos V.length with h0 | h0
  · have : V = [] := List.eq_nil_of_length_eq_zero h0
    subst this
    exact ⟨by decide, by decide⟩
  · have h1 := (h (V.length - 1) (by omega)).1
    unfold lastV
    omega
theorem VOk.snoc {V : List Int} {x : Int} (h : VOk V) (h1 : lastV V < x) (h2 : x ≤ lastV V + 11) : VOk (V ++ [x]) := fun j hj => by
  have hl := h.last
  rw [List.length_append] at hj
  have hj' : j < V.length + 1 := hj
  by_cases e : j < V.length
  · rw [getD_snoc_old e]
    refine ⟨(h j e).1, fun q => ?_⟩
    rw [getD_snoc_old (by omega)]
    exact (h j e).2 q
  · obtain rfl : j = V.length := by omega
    rw [getD_snoc_new]
    refine ⟨by omega, fun q => ?_⟩
    rw [getD_snoc_old (by omega)]
    exact h1
theorem VOk.voB {V : List Int} (h : VOk V) (h8 : V.length ≤ 8) : Go.Proofs.YtclgkgaobjcifaaGreatDoor.voB V = true := by
  unfold Go.Proofs.YtclgkgaobjcifaaGreatDoor.voB
  rw [decide_eq_true h8, Bool.true_and]
  exact decide_eq_true (fun k hk => ⟨by have := (h k hk).1; omega, (h k hk).2⟩)
/-- a reply that grows a list in its cell f -/
structure GL (w : World) (g f : Nat) (cs : Array Value) (wr : World) (V : List Int) (v : Value) : Prop where
  b1 : Blk wr g #[.int .i64 0, .int .i64 0, .int .i64 0, .slice none 0 0, .int .i64 0, .slice none 0 0, .string ⟨#[]⟩, .string ⟨#[]⟩] 34
  b2 : Blk wr (g + 1) (cs.setIfInBounds f v) 34
  lo : Below g w wr
  row : wr.ownsRow (g + 2) 3 1 v V.length (V.map (Value.int .i64))
  sz : g + 2 ≤ wr.heap.size
theorem set_set {cs : Array Value} {f : Nat} (u v : Value) : (cs.setIfInBounds f u).setIfInBounds f v = cs.setIfInBounds f v := by
  apply Array.ext
  · simp
  · intro i h1 h2
    by_cases e : f = i
    · subst e
      simp
    · simp
theorem GL.push {w wr y : World} {g f : Nat} {cs : Array Value} {V : List Int} {v : Value} {x : Int} {g1 c1 : Nat} (h : GL w g f cs wr V v) (hf : f < cs.size) (ho : y.ownsRow (g + 2) 3 1 (.slice (some ⟨g1, 0, none⟩) (V.length + 1) c1) (V.length + 1) (V.map (Value.int .i64) ++ [.int .i64 x])) (hg : (wr.alloc (.cells #[.int .i64 x] 3)).grownBy y v.ownBlock) :
    GL w g f cs (y.setCell ⟨g + 1, f, none⟩ (.slice (some ⟨g1, 0, none⟩) (V.length + 1) c1)) (V ++ [x]) (.slice (some ⟨g1, 0, none⟩) (V.length + 1) c1) ∧ y.cell? ⟨g + 1, f, none⟩ = some v ∧ y.frozen? ⟨g + 1, f, none⟩ = false := by
  have hA : Below wr.heap.size wr (wr.alloc (.cells #[.int .i64 x] 3)) := (Below.refl _ _).alloc (Nat.le_refl _) _
  have hO := grown_onlyW hg
  have r1 : ∀ q, v.ownBlock = some q → g + 2 ≤ q := fun q hq => (h.row.lt q hq).1
  have b1 := (h.b1.below hA h.b1.lt).only hO (fun e => by have := r1 _ e; omega)
  have b2 := (h.b2.below hA h.b2.lt).only hO (fun e => by have := r1 _ e; omega)
  have lo : Below g w y := (h.lo.alloc (by have := h.sz; omega) _).trans (hO.below (by rw [World.size_alloc]; have := h.sz; omega) (fun k hk e => by have := r1 _ e; omega))
  have sz : g + 2 ≤ y.heap.size := by have := hO.size; rw [World.size_alloc] at this; have := h.sz; omega
  have hB : g1 ≥ g + 2 := (ho.lt g1 rfl).1
  have ho2 : Only (fun q => q = g + 1) y (y.setCell ⟨g + 1, f, none⟩ (.slice (some ⟨g1, 0, none⟩) (V.length + 1) c1)) := (Only.refl _ _).setCell _ _ (fun _ => rfl)
  refine ⟨⟨b1.other _ _ (by show g + 1 ≠ g; omega), by have := b2.set f (.slice (some ⟨g1, 0, none⟩) (V.length + 1) c1); rwa [set_set] at this, lo.setCell (by show g ≤ g + 1; omega) _, ?_, by have := ho2.size; omega⟩, ?_, b2.frozen f⟩
  · have h9 := own_onlyW ho ho2 (fun q hq e => by
      have e9 : g1 = q := by simpa [Value.ownBlock] using hq
      omega)
    rw [List.length_append, List.map_append]
    exact h9
  · rw [b2.cell, Array.getElem?_setIfInBounds_self_of_lt hf]
theorem GL.lst {w wr : World} {g f c n : Nat} {cs cs' : Array Value} {p : Option Addr} {V : List Int} (h : GL w g f cs wr V (.slice p n c)) : V.length = n ∧ Lst (wr.setRow g cs') (wr.setRow g cs').heap.size p V := by
  have hr := h.row
  have e : V.length = n := by
    rcases hr.2 with ⟨e1, e0⟩ | ⟨g9, cap, cur, e1, _⟩
    · injection e1 with _ e2 _
      omega
    · injection e1 with _ e2 _
      exact e2.symm
  subst e
  have ho : Only (fun q => q = g) wr (wr.setRow g cs') := only_setRow (P := fun j => j = g) g cs' rfl
  exact ⟨rfl, own_lst (own_onlyW hr ho (fun q hq e => by have := (hr.lt q hq).1; omega))⟩
set_option maxHeartbeats 4000000 in
theorem rp12_6 {w : World} (k : Nat) (status a b : Int) (hst : I64 status) (ha : I64 a) (hb : I64 b) (p : Option Addr) (n c : Nat) (L : List Int) (hn : L.length = n) (hL : Lst w w.heap.size p L) (hI : ∀ j, I64 (L.getD j 0)) (hn9 : n ≤ 9223372036854775807) (s : ByteArray) (hs : s.size ≤ 140737488351232) (hk : k ≤ 12) (hq : pickP status 14 = 0) (h6 : k = 6) :
    Calls Tryz.prog 13 #[.int .i64 (k : Int), .int .i64 status, .int .i64 a, .int .i64 b, .slice p n c, .string s] w fun e w' => RpQ (k : Int) e w' ∧ Below w.heap.size w w' := by
  have HU := hide (And.intro ha (And.intro hb (And.intro hs (And.intro hI (And.intro hk (And.intro hL (And.intro hn hn9)))))))
  clear HU
  subst h6
  obtain ⟨i0, hi, hx0, hx1, hx2⟩ := info_parts info3w
  have HIN := hide (And.intro hi (And.intro hx0 (And.intro hx1 hx2)))
  have HPI := hide (fun (j : Nat) (W : World) => pick12_any (L.getD j 0) 11 (by decide) (hI j) 11 rfl W)
  have HPL := hide (fun (j : Nat) => pickP_lt (L.getD j 0) 11 (by decide))
  clear hi hx0 hx1 hx2
  clear ha hb hs hI
  have HPS := hide (fun W => pick12_any status 14 (by decide) hst 14 rfl W)
  have lst := pickP_lt status 14 (by decide)
  simp only [hq, Int.cast_ofNat_Int] at HPS
  obtain ⟨B1, B2, hbl, hs2⟩ := two_boxes w #[.int .i64 0, .int .i64 0, .int .i64 0, .slice none 0 0, .int .i64 0, .slice none 0 0, .string ⟨#[]⟩, .string ⟨#[]⟩] #[.int .i64 0, .int .i64 0, .int .i64 0, .slice none 0 0, .int .i64 0, .slice none 0 0, .string ⟨#[]⟩, .string ⟨#[]⟩] 34 34
  obtain ⟨g, hg⟩ : ∃ g, w.heap.size = g := ⟨_, rfl⟩
  rw [hg] at B1 B2 hs2 hbl hL ⊢
  obtain ⟨y, hy⟩ : ∃ Z, (w.alloc (.cells #[.int .i64 0, .int .i64 0, .int .i64 0, .slice none 0 0, .int .i64 0, .slice none 0 0, .string ⟨#[]⟩, .string ⟨#[]⟩] 34)).alloc (.cells #[.int .i64 0, .int .i64 0, .int .i64 0, .slice none 0 0, .int .i64 0, .slice none 0 0, .string ⟨#[]⟩, .string ⟨#[]⟩] 34) = Z := ⟨_, rfl⟩
  rw [hy] at B1 B2 hbl hs2
  have C2 := blk_setRow (cells := (Rep.bare 0).cs) B2
  have C1 : Blk (y.setRow (g + 1) (Rep.bare 0).cs) g _ _ := blk_setRow_other B1 (by omega)
  have hO1 : Below g w (y.setRow (g + 1) (Rep.bare 0).cs) := below_setRow hbl (by omega) _
  have hS2 : g + 2 ≤ (y.setRow (g + 1) (Rep.bare 0).cs).heap.size := by have := (only_setRow (w := y) (P := fun j => j = g + 1) (g + 1) (Rep.bare 0).cs rfl).size; omega
  obtain ⟨y2, hy2⟩ : ∃ Z, y.setRow (g + 1) (Rep.bare 0).cs = Z := ⟨_, rfl⟩
  have HZ0 := hide B2
  rw [hy2] at C1 C2 hO1 hS2
  have HY := hide (show Blk y2 g #[.int .i64 0, .int .i64 0, .int .i64 0, .slice none 0 0, .int .i64 0, .slice none 0 0, .string ⟨#[]⟩, .string ⟨#[]⟩] 34 ∧ Blk y2 (g + 1) (Rep.bare 0).cs 34 ∧ Below g w y2 ∧ g + 2 ≤ y2.heap.size from ⟨C1, C2, hO1, hS2⟩)
  have HB0 := hide (built_rep 0)
  have HO0 := hide (Rep.one (Rep.bare 0))
  have c0 : y2.cell? ⟨g + 1, 0, none⟩ = some (.int .i64 0) := C2.cell 0
  clear B1 B2 hbl hs2 C1 C2 hO1 hst hS2
  have HLL := hide hL
  have HNN := hide hn
  clear hL hn hq
  simp only [Int.cast_ofNat_Int]
  go_enter Tryz.func13, Tryz.ntmps13
  go_wp2_with fail
  refine (unhide HPS _).mono ?_
  rintro e x ⟨rfl, hx⟩
  subst x
  have HG0 := hide (show GL w g 3 #[.int .i64 0, .int .i64 0, .int .i64 0, .slice none 0 0, .int .i64 0, .slice none 0 0, .string ⟨#[]⟩, .string ⟨#[]⟩] y2 [] (.slice none 0 0) from ⟨(unhide HY).1, (unhide HY).2.1, (unhide HY).2.2.1, World.ownsRow_nil _ _ _ _, (unhide HY).2.2.2⟩)
  go_wp2_with (first | refine wpList_buildAs rfl 34 #[(0, .tmp 19)] rfl _ rfl (Rep.bare 0).cs (unhide HB0) ?_ | refine wpList_store_row rfl 34 (.tmp 13) (.tmp 20) rfl (g + 1) (Rep.bare 0).cs rfl rfl 34 #[.int .i64 0, .int .i64 0, .int .i64 0, .slice none 0 0, .int .i64 0, .slice none 0 0, .string ⟨#[]⟩, .string ⟨#[]⟩] (unhide HZ0) size_rep rfl (unhide HO0) ?_)
  clear hy hy2
  go_loopw [16, 17] (fun u v wr => ∃ (V : List Int) (pv : Option Addr) (cv : Nat), V.length ≤ 8 ∧ V.length ≤ n ∧ v = .int .i64 (V.length : Int) ∧ u = .int .i64 (lastV V) ∧ VOk V ∧ GL w g 3 #[.int .i64 0, .int .i64 0, .int .i64 0, .slice none 0 0, .int .i64 0, .slice none 0 0, .string ⟨#[]⟩, .string ⟨#[]⟩] wr V (.slice pv V.length cv)) (fun _ v _ => 8 - (intOf v).toNat)
  case atStart => exact ⟨[], none, 0, by decide, Nat.zero_le _, rfl, rfl, fun j hj => absurd hj (by simp), unhide HG0⟩
  case round =>
    obtain ⟨V, pv, cv, h8, hvn, rfl, rfl, hVO, hGL⟩ := hrel
    obtain ⟨wr9, hw9⟩ : ∃ W, W = wr := ⟨_, rfl⟩
    have HVO := hide hVO
    have HGL := hide hGL
    have hl := hVO.last
    obtain ⟨la, hla⟩ : ∃ la, lastV V = la := ⟨_, rfl⟩
    have HLA := hide hla
    rw [hla] at hl ⊢
    clear hVO hGL HG0 hla hw9
    obtain ⟨m, hm⟩ : ∃ m, V.length = m := ⟨_, rfl⟩
    have HM := hide hm
    rw [hm] at h8 hvn hl ⊢
    by_cases q1 : m < n
    · have i1 : (m : Int) < (n : Int) := by omega
      by_cases q2 : m < 8
      · have i2 : (m : Int) < 8 := by omega
        have i3 : 0 ≤ (m : Int) := by omega
        obtain ⟨gl, ol, rfl, hgl, hc⟩ := (unhide HLL).below (unhide HGL).lo m (by rw [unhide HNN]; exact q1)
        have HPX := hide (unhide HPI m)
        have lx := unhide HPL m
        obtain ⟨x, hx⟩ : ∃ x, L.getD m 0 = x := ⟨_, rfl⟩
        rw [hx] at HPX lx hc
        generalize pickP x 11 = px at *
        clear hx
        as_aux_lemma =>
          go_wp2_with fail
          refine (unhide HPX _).mono ?_
          rintro e z ⟨rfl, hz⟩
          subst z
          have w1 : IntKind.i64.wrap (la + 1) = la + 1 := wrapI_eq _ (by omega) (by omega)
          have w2 : IntKind.i64.wrap (la + 1 + (px : Int)) = la + 1 + (px : Int) := wrapI_eq _ (by omega) (by omega)
          obtain ⟨X, hX⟩ : ∃ X, la + 1 + (px : Int) = X := ⟨_, rfl⟩
          rw [hX] at w2
          have HXL := hide (show lastV V < X ∧ X ≤ lastV V + 11 from by rw [unhide HLA]; omega)
          have c3 : wr.cell? ⟨g + 1, 3, none⟩ = some (.slice pv m cv) := by
            have := (unhide HGL).b2.cell 3
            rw [unhide HM] at this
            exact this
          have HRA := hide (show (wr.alloc (.cells #[.int .i64 X] 3)).ownsRow (g + 2) 3 1 (.slice pv m cv) m (V.map (Value.int .i64)) from by
            have h9 := own_onlyW (unhide HGL).row (Only.of_below (P := fun _ => False) (show Below wr.heap.size wr (wr.alloc (.cells #[.int .i64 X] 3)) from (Below.refl _ _).alloc (Nat.le_refl _) _)) (fun _ _ q => q)
            rw [unhide HM] at h9
            exact h9)
          have HLE := hide (show g + 2 ≤ (wr.alloc (.cells #[.int .i64 X] 3)).heap.size from by rw [World.size_alloc]; have := (unhide HGL).sz; omega)
          clear hc HPX
          go_wp2_with (refine wpList_append_lies _ rfl (.tmp 92) (.tmp 94) 22 rfl (g + 2) 3 i0 (.int .i64 0) 1 8 Tryz.underlying22 (unhide HIN).1 (unhide HIN).2.1 (unhide HIN).2.2.1 (unhide HIN).2.2.2 rfl (by decide) _ m (V.map (Value.int .i64)) rfl (unhide HRA) ⟨wr.heap.size, 0, none⟩ 1 1 [.int .i64 X] rfl rfl (fun q u hu => news_oneW wr 3 _ q u hu) (by simp [Value.oneCell']) (by omega) (by unfold maxLen; omega) (by omega) (unhide HLE) _ rfl ?_)
          intro g1 c1 y9 ho9 hg9 hor9 hlt9
          have hps := (unhide HGL).push (f := 3) (x := X) (y := y9) (g1 := g1) (c1 := c1) (by show 3 < 8; decide) (by rw [unhide HM]; exact ho9) (by rw [unhide HM]; exact hg9)
          rw [unhide HM] at hps
          have c9 := hps.2.1
          have f9 := hps.2.2
          have HPS9 := hide hps.1
          have HLS := hide (show lastV (V ++ [X]) = X from lastV_snoc V X)
          have HVS := hide ((unhide HVO).snoc (unhide HXL).1 (unhide HXL).2)
          have HL9 := hide (show (V ++ [X]).length = m + 1 from by rw [List.length_append, unhide HM]; rfl)
          clear hps ho9 hg9 hor9 hlt9 HRA HLE c3
          go_wp2
          go_roundw
          case rel => exact ⟨V ++ [X], _, c1, by rw [unhide HL9]; omega, by rw [unhide HL9]; omega, by rw [unhide HL9]; go_num, by rw [unhide HLS], unhide HVS, by rw [unhide HL9]; exact unhide HPS9⟩
          case measure => simp [intOf]; omega
      · have i2 : ¬ ((m : Int) < 8) := by omega
        rw [← unhide HM]
        rw [← unhide HM] at h8 hvn i1 i2
        clear q1 q2 hl hm
        have HVB := hide ((unhide HVO).voB (by omega))
        have HYF := hide (show Blk wr g #[.int .i64 0, .int .i64 0, .int .i64 0, .slice none 0 0, .int .i64 0, .slice none 0 0, .string ⟨#[]⟩, .string ⟨#[]⟩] 34 ∧ Blk wr (g + 1) (⟨0, 0, 0, pv, V.length, cv, 0, none, 0, 0, ⟨#[]⟩, ⟨#[]⟩⟩ : Rep).cs 34 ∧ Below g w wr from ⟨(unhide HGL).b1, (unhide HGL).b2, (unhide HGL).lo⟩)
        have BT := blk_setRow (cells := (⟨0, 0, 0, pv, V.length, cv, 0, none, 0, 0, ⟨#[]⟩, ⟨#[]⟩⟩ : Rep).cs) (unhide HYF).1
        have HL0 := hide (iload_blk 34 _ BT Tryz.underlying34 rfl size_rep)
        have HRG := hide (show wr.rangeAt (g + 1) 0 (⟨0, 0, 0, pv, V.length, cv, 0, none, 0, 0, ⟨#[]⟩, ⟨#[]⟩⟩ : Rep).cl from blk_range (unhide HYF).2.1)
        have HZ := hide (unhide HYF).1
        have HO := hide (Rep.one (⟨0, 0, 0, pv, V.length, cv, 0, none, 0, 0, ⟨#[]⟩, ⟨#[]⟩⟩ : Rep))
        have HF := hide (show Below g w (wr.setRow g (⟨0, 0, 0, pv, V.length, cv, 0, none, 0, 0, ⟨#[]⟩, ⟨#[]⟩⟩ : Rep).cs) from below_setRow (unhide HYF).2.2 (Nat.le_refl _) _)
        have HG := hide (show GoodP ((6 : Nat) : Int) (⟨0, 0, 0, pv, V.length, cv, 0, none, 0, 0, ⟨#[]⟩, ⟨#[]⟩⟩ : Rep) V [] (wr.setRow g (⟨0, 0, 0, pv, V.length, cv, 0, none, 0, 0, ⟨#[]⟩, ⟨#[]⟩⟩ : Rep).cs) from ⟨⟨by show (0 : Int) ≤ 0; decide, by show (0 : Int) ≤ 13; decide⟩, by
          rw [lyB_full (k := ((6 : Nat) : Int)) (r := (⟨0, 0, 0, pv, V.length, cv, 0, none, 0, 0, ⟨#[]⟩, ⟨#[]⟩⟩ : Rep)) rfl]
          unfold lgB
          rw [show rpF ((6 : Nat) : Int) = [fVos] from rfl, layG_ok (f := fVos) (r := (⟨0, 0, 0, pv, V.length, cv, 0, none, 0, 0, ⟨#[]⟩, ⟨#[]⟩⟩ : Rep)) (unhide HVB)]
          exact bareP_mk _ _ _ _ _, rfl, rfl, ⟨by show V.length ≤ 8; omega, Nat.zero_le _⟩, (unhide HGL).lst.2, Lst.nil _ _ _⟩)
        clear BT
        go_wp2_with (first | refine wpList_load_mid rfl 34 (.tmp 13) rfl (g + 1) 0 rfl (⟨0, 0, 0, pv, V.length, cv, 0, none, 0, 0, ⟨#[]⟩, ⟨#[]⟩⟩ : Rep).cl _ (unhide HRG) Tryz.underlying34 rfl size_rep ?_ | refine wpList_store_row rfl 34 (.tmp 12) (.tmp 105) rfl g (⟨0, 0, 0, pv, V.length, cv, 0, none, 0, 0, ⟨#[]⟩, ⟨#[]⟩⟩ : Rep).cs rfl rfl 34 #[.int .i64 0, .int .i64 0, .int .i64 0, .slice none 0 0, .int .i64 0, .slice none 0 0, .string ⟨#[]⟩, .string ⟨#[]⟩] (unhide HZ) size_rep rfl (unhide HO) ?_)
        (try simp only [Exit.inBlock, Exit.then])
        refine bodyPost_ret (results_cell rfl _ _ _ ⟨g, 0, none⟩ rfl _ (unhide HL0)) rfl ?_
        exact ⟨RpQ.of (unhide HG), unhide HF⟩
    · have i1 : ¬ ((m : Int) < (n : Int)) := by omega
      rw [← unhide HM]
      rw [← unhide HM] at h8 hvn i1
      clear q1 hl hm
      have HVB := hide ((unhide HVO).voB (by omega))
      have HYF := hide (show Blk wr g #[.int .i64 0, .int .i64 0, .int .i64 0, .slice none 0 0, .int .i64 0, .slice none 0 0, .string ⟨#[]⟩, .string ⟨#[]⟩] 34 ∧ Blk wr (g + 1) (⟨0, 0, 0, pv, V.length, cv, 0, none, 0, 0, ⟨#[]⟩, ⟨#[]⟩⟩ : Rep).cs 34 ∧ Below g w wr from ⟨(unhide HGL).b1, (unhide HGL).b2, (unhide HGL).lo⟩)
      have BT := blk_setRow (cells := (⟨0, 0, 0, pv, V.length, cv, 0, none, 0, 0, ⟨#[]⟩, ⟨#[]⟩⟩ : Rep).cs) (unhide HYF).1
      have HL0 := hide (iload_blk 34 _ BT Tryz.underlying34 rfl size_rep)
      have HRG := hide (show wr.rangeAt (g + 1) 0 (⟨0, 0, 0, pv, V.length, cv, 0, none, 0, 0, ⟨#[]⟩, ⟨#[]⟩⟩ : Rep).cl from blk_range (unhide HYF).2.1)
      have HZ := hide (unhide HYF).1
      have HO := hide (Rep.one (⟨0, 0, 0, pv, V.length, cv, 0, none, 0, 0, ⟨#[]⟩, ⟨#[]⟩⟩ : Rep))
      have HF := hide (show Below g w (wr.setRow g (⟨0, 0, 0, pv, V.length, cv, 0, none, 0, 0, ⟨#[]⟩, ⟨#[]⟩⟩ : Rep).cs) from below_setRow (unhide HYF).2.2 (Nat.le_refl _) _)
      have HG := hide (show GoodP ((6 : Nat) : Int) (⟨0, 0, 0, pv, V.length, cv, 0, none, 0, 0, ⟨#[]⟩, ⟨#[]⟩⟩ : Rep) V [] (wr.setRow g (⟨0, 0, 0, pv, V.length, cv, 0, none, 0, 0, ⟨#[]⟩, ⟨#[]⟩⟩ : Rep).cs) from ⟨⟨by show (0 : Int) ≤ 0; decide, by show (0 : Int) ≤ 13; decide⟩, by
        rw [lyB_full (k := ((6 : Nat) : Int)) (r := (⟨0, 0, 0, pv, V.length, cv, 0, none, 0, 0, ⟨#[]⟩, ⟨#[]⟩⟩ : Rep)) rfl]
        unfold lgB
        rw [show rpF ((6 : Nat) : Int) = [fVos] from rfl, layG_ok (f := fVos) (r := (⟨0, 0, 0, pv, V.length, cv, 0, none, 0, 0, ⟨#[]⟩, ⟨#[]⟩⟩ : Rep)) (unhide HVB)]
        exact bareP_mk _ _ _ _ _, rfl, rfl, ⟨by show V.length ≤ 8; omega, Nat.zero_le _⟩, (unhide HGL).lst.2, Lst.nil _ _ _⟩)
      clear BT
      go_wp2_with (first | refine wpList_load_mid rfl 34 (.tmp 13) rfl (g + 1) 0 rfl (⟨0, 0, 0, pv, V.length, cv, 0, none, 0, 0, ⟨#[]⟩, ⟨#[]⟩⟩ : Rep).cl _ (unhide HRG) Tryz.underlying34 rfl size_rep ?_ | refine wpList_store_row rfl 34 (.tmp 12) (.tmp 105) rfl g (⟨0, 0, 0, pv, V.length, cv, 0, none, 0, 0, ⟨#[]⟩, ⟨#[]⟩⟩ : Rep).cs rfl rfl 34 #[.int .i64 0, .int .i64 0, .int .i64 0, .slice none 0 0, .int .i64 0, .slice none 0 0, .string ⟨#[]⟩, .string ⟨#[]⟩] (unhide HZ) size_rep rfl (unhide HO) ?_)
      (try simp only [Exit.inBlock, Exit.then])
      refine bodyPost_ret (results_cell rfl _ _ _ ⟨g, 0, none⟩ rfl _ (unhide HL0)) rfl ?_
      exact ⟨RpQ.of (unhide HG), unhide HF⟩
set_option maxHeartbeats 4000000 in
theorem rp12_3 {w : World} (k : Nat) (status a b : Int) (hst : I64 status) (ha : I64 a) (hb : I64 b) (p : Option Addr) (n c : Nat) (L : List Int) (hn : L.length = n) (hL : Lst w w.heap.size p L) (hI : ∀ j, I64 (L.getD j 0)) (hn9 : n ≤ 9223372036854775807) (s : ByteArray) (hs : s.size ≤ 140737488351232) (hk : k ≤ 12) (hq : pickP status 14 = 0) (h3 : k = 3) :
    Calls Tryz.prog 13 #[.int .i64 (k : Int), .int .i64 status, .int .i64 a, .int .i64 b, .slice p n c, .string s] w fun e w' => RpQ (k : Int) e w' ∧ Below w.heap.size w w' := by
  have HU := hide (And.intro ha (And.intro hb (And.intro hs (And.intro hI (And.intro hk (And.intro hL (And.intro hn hn9)))))))
  clear HU
  subst h3
  obtain ⟨i0, hi, hx0, hx1, hx2⟩ := info_parts info3w
  have HIN := hide (And.intro hi (And.intro hx0 (And.intro hx1 hx2)))
  have HPI := hide (fun (j : Nat) (W : World) => pick12_any (L.getD j 0) 11 (by decide) (hI j) 11 rfl W)
  have HPL := hide (fun (j : Nat) => pickP_lt (L.getD j 0) 11 (by decide))
  clear hi hx0 hx1 hx2
  have HP0 := hide (fun W => pick12_any a 65536 (by decide) ha 65536 rfl W)
  have l0 := pickP_lt a 65536 (by decide)
  have HP1 := hide (fun W => pick12_any b 65536 (by decide) hb 65536 rfl W)
  have l1 := pickP_lt b 65536 (by decide)
  generalize pickP a 65536 = p0 at *
  generalize pickP b 65536 = p1 at *
  clear ha hb hs hI
  have HPS := hide (fun W => pick12_any status 14 (by decide) hst 14 rfl W)
  have lst := pickP_lt status 14 (by decide)
  simp only [hq, Int.cast_ofNat_Int] at HPS
  obtain ⟨B1, B2, hbl, hs2⟩ := two_boxes w #[.int .i64 0, .int .i64 0, .int .i64 0, .slice none 0 0, .int .i64 0, .slice none 0 0, .string ⟨#[]⟩, .string ⟨#[]⟩] #[.int .i64 0, .int .i64 0, .int .i64 0, .slice none 0 0, .int .i64 0, .slice none 0 0, .string ⟨#[]⟩, .string ⟨#[]⟩] 34 34
  obtain ⟨g, hg⟩ : ∃ g, w.heap.size = g := ⟨_, rfl⟩
  rw [hg] at B1 B2 hs2 hbl hL ⊢
  obtain ⟨y, hy⟩ : ∃ Z, (w.alloc (.cells #[.int .i64 0, .int .i64 0, .int .i64 0, .slice none 0 0, .int .i64 0, .slice none 0 0, .string ⟨#[]⟩, .string ⟨#[]⟩] 34)).alloc (.cells #[.int .i64 0, .int .i64 0, .int .i64 0, .slice none 0 0, .int .i64 0, .slice none 0 0, .string ⟨#[]⟩, .string ⟨#[]⟩] 34) = Z := ⟨_, rfl⟩
  rw [hy] at B1 B2 hbl hs2
  have C2 := blk_setRow (cells := (Rep.bare 0).cs) B2
  have C1 : Blk (y.setRow (g + 1) (Rep.bare 0).cs) g _ _ := blk_setRow_other B1 (by omega)
  have hO1 : Below g w (y.setRow (g + 1) (Rep.bare 0).cs) := below_setRow hbl (by omega) _
  have hS2 : g + 2 ≤ (y.setRow (g + 1) (Rep.bare 0).cs).heap.size := by have := (only_setRow (w := y) (P := fun j => j = g + 1) (g + 1) (Rep.bare 0).cs rfl).size; omega
  obtain ⟨y2, hy2⟩ : ∃ Z, y.setRow (g + 1) (Rep.bare 0).cs = Z := ⟨_, rfl⟩
  have HZ0 := hide B2
  rw [hy2] at C1 C2 hO1 hS2
  have HY := hide (show Blk y2 g #[.int .i64 0, .int .i64 0, .int .i64 0, .slice none 0 0, .int .i64 0, .slice none 0 0, .string ⟨#[]⟩, .string ⟨#[]⟩] 34 ∧ Blk y2 (g + 1) (Rep.bare 0).cs 34 ∧ Below g w y2 ∧ g + 2 ≤ y2.heap.size from ⟨C1, C2, hO1, hS2⟩)
  have HB0 := hide (built_rep 0)
  have HO0 := hide (Rep.one (Rep.bare 0))
  have c0 : y2.cell? ⟨g + 1, 0, none⟩ = some (.int .i64 0) := C2.cell 0
  clear B1 B2 hbl hs2 C1 C2 hO1 hst hS2
  have HLL := hide hL
  have HNN := hide hn
  clear hL hn hq
  simp only [Int.cast_ofNat_Int]
  go_enter Tryz.func13, Tryz.ntmps13
  go_wp2_with fail
  refine (unhide HPS _).mono ?_
  rintro e x ⟨rfl, hx⟩
  subst x
  go_wp2_with (first | refine wpList_buildAs rfl 34 #[(0, .tmp 19)] rfl _ rfl (Rep.bare 0).cs (unhide HB0) ?_ | refine wpList_store_row rfl 34 (.tmp 13) (.tmp 20) rfl (g + 1) (Rep.bare 0).cs rfl rfl 34 #[.int .i64 0, .int .i64 0, .int .i64 0, .slice none 0 0, .int .i64 0, .slice none 0 0, .string ⟨#[]⟩, .string ⟨#[]⟩] (unhide HZ0) size_rep rfl (unhide HO0) ?_)
  refine (unhide HP0 _).mono ?_
  rintro e x ⟨rfl, hx⟩
  subst x
  clear hy hy2
  have cf0 : y2.cell? ⟨g + 1, 1, none⟩ = some (.int .i64 0) := by rw [(unhide HY).2.1.cell]; rfl
  have ff0 : y2.frozen? ⟨g + 1, 1, none⟩ = false := (unhide HY).2.1.frozen 1
  obtain ⟨y3, hy3⟩ : ∃ Z, y2.setCell ⟨g + 1, 1, none⟩ (.int .i64 (p0 : Int)) = Z := ⟨_, rfl⟩
  have HY1 := hide (show Blk y3 g #[.int .i64 0, .int .i64 0, .int .i64 0, .slice none 0 0, .int .i64 0, .slice none 0 0, .string ⟨#[]⟩, .string ⟨#[]⟩] 34 ∧ Blk y3 (g + 1) (⟨0, (p0 : Int), 0, none, 0, 0, 0, none, 0, 0, ⟨#[]⟩, ⟨#[]⟩⟩ : Rep).cs 34 ∧ Below g w y3 ∧ g + 2 ≤ y3.heap.size from by
    rw [← hy3]
    obtain ⟨q1, q2, q3, q4⟩ := unhide HY
    exact ⟨q1.other _ _ (by show g + 1 ≠ g; omega), q2.set 1 (.int .i64 (p0 : Int)), q3.setCell (by show g ≤ g + 1; omega) _, by simpa using q4⟩)
  go_wp2_with fail
  refine (unhide HP1 _).mono ?_
  rintro e x ⟨rfl, hx⟩
  subst x
  have cf1 : y3.cell? ⟨g + 1, 2, none⟩ = some (.int .i64 0) := by rw [(unhide HY1).2.1.cell]; rfl
  have ff1 : y3.frozen? ⟨g + 1, 2, none⟩ = false := (unhide HY1).2.1.frozen 2
  obtain ⟨y4, hy4⟩ : ∃ Z, y3.setCell ⟨g + 1, 2, none⟩ (.int .i64 (p1 : Int)) = Z := ⟨_, rfl⟩
  have HY2 := hide (show Blk y4 g #[.int .i64 0, .int .i64 0, .int .i64 0, .slice none 0 0, .int .i64 0, .slice none 0 0, .string ⟨#[]⟩, .string ⟨#[]⟩] 34 ∧ Blk y4 (g + 1) (⟨0, (p0 : Int), (p1 : Int), none, 0, 0, 0, none, 0, 0, ⟨#[]⟩, ⟨#[]⟩⟩ : Rep).cs 34 ∧ Below g w y4 ∧ g + 2 ≤ y4.heap.size from by
    rw [← hy4]
    obtain ⟨q1, q2, q3, q4⟩ := unhide HY1
    exact ⟨q1.other _ _ (by show g + 1 ≠ g; omega), q2.set 2 (.int .i64 (p1 : Int)), q3.setCell (by show g ≤ g + 1; omega) _, by simpa using q4⟩)
  have HG0 := hide (show GL w g 3 #[.int .i64 0, .int .i64 (p0 : Int), .int .i64 (p1 : Int), .slice none 0 0, .int .i64 0, .slice none 0 0, .string ⟨#[]⟩, .string ⟨#[]⟩] y4 [] (.slice none 0 0) from ⟨(unhide HY2).1, (unhide HY2).2.1, (unhide HY2).2.2.1, World.ownsRow_nil _ _ _ _, (unhide HY2).2.2.2⟩)
  go_wp2_with fail
  skip
  go_loopw [16, 17] (fun u v wr => ∃ (V : List Int) (pv : Option Addr) (cv : Nat), V.length ≤ 8 ∧ V.length ≤ n ∧ v = .int .i64 (V.length : Int) ∧ u = .int .i64 (lastV V) ∧ VOk V ∧ GL w g 3 #[.int .i64 0, .int .i64 (p0 : Int), .int .i64 (p1 : Int), .slice none 0 0, .int .i64 0, .slice none 0 0, .string ⟨#[]⟩, .string ⟨#[]⟩] wr V (.slice pv V.length cv)) (fun _ v _ => 8 - (intOf v).toNat)
  case atStart => exact ⟨[], none, 0, by decide, Nat.zero_le _, rfl, rfl, fun j hj => absurd hj (by simp), unhide HG0⟩
  case round =>
    obtain ⟨V, pv, cv, h8, hvn, rfl, rfl, hVO, hGL⟩ := hrel
    obtain ⟨wr9, hw9⟩ : ∃ W, W = wr := ⟨_, rfl⟩
    have HVO := hide hVO
    have HGL := hide hGL
    have hl := hVO.last
    obtain ⟨la, hla⟩ : ∃ la, lastV V = la := ⟨_, rfl⟩
    have HLA := hide hla
    rw [hla] at hl ⊢
    clear hVO hGL HG0 hla hw9
    obtain ⟨m, hm⟩ : ∃ m, V.length = m := ⟨_, rfl⟩
    have HM := hide hm
    rw [hm] at h8 hvn hl ⊢
    by_cases q1 : m < n
    · have i1 : (m : Int) < (n : Int) := by omega
      by_cases q2 : m < 8
      · have i2 : (m : Int) < 8 := by omega
        have i3 : 0 ≤ (m : Int) := by omega
        obtain ⟨gl, ol, rfl, hgl, hc⟩ := (unhide HLL).below (unhide HGL).lo m (by rw [unhide HNN]; exact q1)
        have HPX := hide (unhide HPI m)
        have lx := unhide HPL m
        obtain ⟨x, hx⟩ : ∃ x, L.getD m 0 = x := ⟨_, rfl⟩
        rw [hx] at HPX lx hc
        generalize pickP x 11 = px at *
        clear hx
        as_aux_lemma =>
          go_wp2_with fail
          refine (unhide HPX _).mono ?_
          rintro e z ⟨rfl, hz⟩
          subst z
          have w1 : IntKind.i64.wrap (la + 1) = la + 1 := wrapI_eq _ (by omega) (by omega)
          have w2 : IntKind.i64.wrap (la + 1 + (px : Int)) = la + 1 + (px : Int) := wrapI_eq _ (by omega) (by omega)
          obtain ⟨X, hX⟩ : ∃ X, la + 1 + (px : Int) = X := ⟨_, rfl⟩
          rw [hX] at w2
          have HXL := hide (show lastV V < X ∧ X ≤ lastV V + 11 from by rw [unhide HLA]; omega)
          have c3 : wr.cell? ⟨g + 1, 3, none⟩ = some (.slice pv m cv) := by
            have := (unhide HGL).b2.cell 3
            rw [unhide HM] at this
            exact this
          have HRA := hide (show (wr.alloc (.cells #[.int .i64 X] 3)).ownsRow (g + 2) 3 1 (.slice pv m cv) m (V.map (Value.int .i64)) from by
            have h9 := own_onlyW (unhide HGL).row (Only.of_below (P := fun _ => False) (show Below wr.heap.size wr (wr.alloc (.cells #[.int .i64 X] 3)) from (Below.refl _ _).alloc (Nat.le_refl _) _)) (fun _ _ q => q)
            rw [unhide HM] at h9
            exact h9)
          have HLE := hide (show g + 2 ≤ (wr.alloc (.cells #[.int .i64 X] 3)).heap.size from by rw [World.size_alloc]; have := (unhide HGL).sz; omega)
          clear hc HPX
          go_wp2_with (refine wpList_append_lies _ rfl (.tmp 92) (.tmp 94) 22 rfl (g + 2) 3 i0 (.int .i64 0) 1 8 Tryz.underlying22 (unhide HIN).1 (unhide HIN).2.1 (unhide HIN).2.2.1 (unhide HIN).2.2.2 rfl (by decide) _ m (V.map (Value.int .i64)) rfl (unhide HRA) ⟨wr.heap.size, 0, none⟩ 1 1 [.int .i64 X] rfl rfl (fun q u hu => news_oneW wr 3 _ q u hu) (by simp [Value.oneCell']) (by omega) (by unfold maxLen; omega) (by omega) (unhide HLE) _ rfl ?_)
          intro g1 c1 y9 ho9 hg9 hor9 hlt9
          have hps := (unhide HGL).push (f := 3) (x := X) (y := y9) (g1 := g1) (c1 := c1) (by show 3 < 8; decide) (by rw [unhide HM]; exact ho9) (by rw [unhide HM]; exact hg9)
          rw [unhide HM] at hps
          have c9 := hps.2.1
          have f9 := hps.2.2
          have HPS9 := hide hps.1
          have HLS := hide (show lastV (V ++ [X]) = X from lastV_snoc V X)
          have HVS := hide ((unhide HVO).snoc (unhide HXL).1 (unhide HXL).2)
          have HL9 := hide (show (V ++ [X]).length = m + 1 from by rw [List.length_append, unhide HM]; rfl)
          clear hps ho9 hg9 hor9 hlt9 HRA HLE c3
          go_wp2
          go_roundw
          case rel => exact ⟨V ++ [X], _, c1, by rw [unhide HL9]; omega, by rw [unhide HL9]; omega, by rw [unhide HL9]; go_num, by rw [unhide HLS], unhide HVS, by rw [unhide HL9]; exact unhide HPS9⟩
          case measure => simp [intOf]; omega
      · have i2 : ¬ ((m : Int) < 8) := by omega
        rw [← unhide HM]
        rw [← unhide HM] at h8 hvn i1 i2
        clear q1 q2 hl hm
        have HVB := hide ((unhide HVO).voB (by omega))
        have HYF := hide (show Blk wr g #[.int .i64 0, .int .i64 0, .int .i64 0, .slice none 0 0, .int .i64 0, .slice none 0 0, .string ⟨#[]⟩, .string ⟨#[]⟩] 34 ∧ Blk wr (g + 1) (⟨0, (p0 : Int), (p1 : Int), pv, V.length, cv, 0, none, 0, 0, ⟨#[]⟩, ⟨#[]⟩⟩ : Rep).cs 34 ∧ Below g w wr from ⟨(unhide HGL).b1, (unhide HGL).b2, (unhide HGL).lo⟩)
        have BT := blk_setRow (cells := (⟨0, (p0 : Int), (p1 : Int), pv, V.length, cv, 0, none, 0, 0, ⟨#[]⟩, ⟨#[]⟩⟩ : Rep).cs) (unhide HYF).1
        have HL0 := hide (iload_blk 34 _ BT Tryz.underlying34 rfl size_rep)
        have HRG := hide (show wr.rangeAt (g + 1) 0 (⟨0, (p0 : Int), (p1 : Int), pv, V.length, cv, 0, none, 0, 0, ⟨#[]⟩, ⟨#[]⟩⟩ : Rep).cl from blk_range (unhide HYF).2.1)
        have HZ := hide (unhide HYF).1
        have HO := hide (Rep.one (⟨0, (p0 : Int), (p1 : Int), pv, V.length, cv, 0, none, 0, 0, ⟨#[]⟩, ⟨#[]⟩⟩ : Rep))
        have HF := hide (show Below g w (wr.setRow g (⟨0, (p0 : Int), (p1 : Int), pv, V.length, cv, 0, none, 0, 0, ⟨#[]⟩, ⟨#[]⟩⟩ : Rep).cs) from below_setRow (unhide HYF).2.2 (Nat.le_refl _) _)
        have HG := hide (show GoodP ((3 : Nat) : Int) (⟨0, (p0 : Int), (p1 : Int), pv, V.length, cv, 0, none, 0, 0, ⟨#[]⟩, ⟨#[]⟩⟩ : Rep) V [] (wr.setRow g (⟨0, (p0 : Int), (p1 : Int), pv, V.length, cv, 0, none, 0, 0, ⟨#[]⟩, ⟨#[]⟩⟩ : Rep).cs) from ⟨⟨by show (0 : Int) ≤ 0; decide, by show (0 : Int) ≤ 13; decide⟩, by
          rw [lyB_full (k := ((3 : Nat) : Int)) (r := (⟨0, (p0 : Int), (p1 : Int), pv, V.length, cv, 0, none, 0, 0, ⟨#[]⟩, ⟨#[]⟩⟩ : Rep)) rfl]
          unfold lgB
          rw [show rpF ((3 : Nat) : Int) = [fQuo, fCha, fVos] from rfl, layG_ok (f := fQuo) (r := (⟨0, (p0 : Int), (p1 : Int), pv, V.length, cv, 0, none, 0, 0, ⟨#[]⟩, ⟨#[]⟩⟩ : Rep)) (decide_eq_true (p := ((0 : Nat) : Int) ≤ (p0 : Int) ∧ (p0 : Int) ≤ ((65535 : Nat) : Int)) ⟨by omega, by omega⟩), layG_ok (f := fCha) (r := (exr fQuo (⟨0, (p0 : Int), (p1 : Int), pv, V.length, cv, 0, none, 0, 0, ⟨#[]⟩, ⟨#[]⟩⟩ : Rep) Prt.nil).1) (decide_eq_true (p := ((0 : Nat) : Int) ≤ (p1 : Int) ∧ (p1 : Int) ≤ ((65535 : Nat) : Int)) ⟨by omega, by omega⟩), layG_ok (f := fVos) (r := (exr fCha (exr fQuo (⟨0, (p0 : Int), (p1 : Int), pv, V.length, cv, 0, none, 0, 0, ⟨#[]⟩, ⟨#[]⟩⟩ : Rep) Prt.nil).1 Prt.nil).1) (unhide HVB)]
          exact bareP_mk _ _ _ _ _, rfl, rfl, ⟨by show V.length ≤ 8; omega, Nat.zero_le _⟩, (unhide HGL).lst.2, Lst.nil _ _ _⟩)
        clear BT
        go_wp2_with (first | refine wpList_load_mid rfl 34 (.tmp 13) rfl (g + 1) 0 rfl (⟨0, (p0 : Int), (p1 : Int), pv, V.length, cv, 0, none, 0, 0, ⟨#[]⟩, ⟨#[]⟩⟩ : Rep).cl _ (unhide HRG) Tryz.underlying34 rfl size_rep ?_ | refine wpList_store_row rfl 34 (.tmp 12) (.tmp 105) rfl g (⟨0, (p0 : Int), (p1 : Int), pv, V.length, cv, 0, none, 0, 0, ⟨#[]⟩, ⟨#[]⟩⟩ : Rep).cs rfl rfl 34 #[.int .i64 0, .int .i64 0, .int .i64 0, .slice none 0 0, .int .i64 0, .slice none 0 0, .string ⟨#[]⟩, .string ⟨#[]⟩] (unhide HZ) size_rep rfl (unhide HO) ?_)
        (try simp only [Exit.inBlock, Exit.then])
        refine bodyPost_ret (results_cell rfl _ _ _ ⟨g, 0, none⟩ rfl _ (unhide HL0)) rfl ?_
        exact ⟨RpQ.of (unhide HG), unhide HF⟩
    · have i1 : ¬ ((m : Int) < (n : Int)) := by omega
      rw [← unhide HM]
      rw [← unhide HM] at h8 hvn i1
      clear q1 hl hm
      have HVB := hide ((unhide HVO).voB (by omega))
      have HYF := hide (show Blk wr g #[.int .i64 0, .int .i64 0, .int .i64 0, .slice none 0 0, .int .i64 0, .slice none 0 0, .string ⟨#[]⟩, .string ⟨#[]⟩] 34 ∧ Blk wr (g + 1) (⟨0, (p0 : Int), (p1 : Int), pv, V.length, cv, 0, none, 0, 0, ⟨#[]⟩, ⟨#[]⟩⟩ : Rep).cs 34 ∧ Below g w wr from ⟨(unhide HGL).b1, (unhide HGL).b2, (unhide HGL).lo⟩)
      have BT := blk_setRow (cells := (⟨0, (p0 : Int), (p1 : Int), pv, V.length, cv, 0, none, 0, 0, ⟨#[]⟩, ⟨#[]⟩⟩ : Rep).cs) (unhide HYF).1
      have HL0 := hide (iload_blk 34 _ BT Tryz.underlying34 rfl size_rep)
      have HRG := hide (show wr.rangeAt (g + 1) 0 (⟨0, (p0 : Int), (p1 : Int), pv, V.length, cv, 0, none, 0, 0, ⟨#[]⟩, ⟨#[]⟩⟩ : Rep).cl from blk_range (unhide HYF).2.1)
      have HZ := hide (unhide HYF).1
      have HO := hide (Rep.one (⟨0, (p0 : Int), (p1 : Int), pv, V.length, cv, 0, none, 0, 0, ⟨#[]⟩, ⟨#[]⟩⟩ : Rep))
      have HF := hide (show Below g w (wr.setRow g (⟨0, (p0 : Int), (p1 : Int), pv, V.length, cv, 0, none, 0, 0, ⟨#[]⟩, ⟨#[]⟩⟩ : Rep).cs) from below_setRow (unhide HYF).2.2 (Nat.le_refl _) _)
      have HG := hide (show GoodP ((3 : Nat) : Int) (⟨0, (p0 : Int), (p1 : Int), pv, V.length, cv, 0, none, 0, 0, ⟨#[]⟩, ⟨#[]⟩⟩ : Rep) V [] (wr.setRow g (⟨0, (p0 : Int), (p1 : Int), pv, V.length, cv, 0, none, 0, 0, ⟨#[]⟩, ⟨#[]⟩⟩ : Rep).cs) from ⟨⟨by show (0 : Int) ≤ 0; decide, by show (0 : Int) ≤ 13; decide⟩, by
        rw [lyB_full (k := ((3 : Nat) : Int)) (r := (⟨0, (p0 : Int), (p1 : Int), pv, V.length, cv, 0, none, 0, 0, ⟨#[]⟩, ⟨#[]⟩⟩ : Rep)) rfl]
        unfold lgB
        rw [show rpF ((3 : Nat) : Int) = [fQuo, fCha, fVos] from rfl, layG_ok (f := fQuo) (r := (⟨0, (p0 : Int), (p1 : Int), pv, V.length, cv, 0, none, 0, 0, ⟨#[]⟩, ⟨#[]⟩⟩ : Rep)) (decide_eq_true (p := ((0 : Nat) : Int) ≤ (p0 : Int) ∧ (p0 : Int) ≤ ((65535 : Nat) : Int)) ⟨by omega, by omega⟩), layG_ok (f := fCha) (r := (exr fQuo (⟨0, (p0 : Int), (p1 : Int), pv, V.length, cv, 0, none, 0, 0, ⟨#[]⟩, ⟨#[]⟩⟩ : Rep) Prt.nil).1) (decide_eq_true (p := ((0 : Nat) : Int) ≤ (p1 : Int) ∧ (p1 : Int) ≤ ((65535 : Nat) : Int)) ⟨by omega, by omega⟩), layG_ok (f := fVos) (r := (exr fCha (exr fQuo (⟨0, (p0 : Int), (p1 : Int), pv, V.length, cv, 0, none, 0, 0, ⟨#[]⟩, ⟨#[]⟩⟩ : Rep) Prt.nil).1 Prt.nil).1) (unhide HVB)]
        exact bareP_mk _ _ _ _ _, rfl, rfl, ⟨by show V.length ≤ 8; omega, Nat.zero_le _⟩, (unhide HGL).lst.2, Lst.nil _ _ _⟩)
      clear BT
      go_wp2_with (first | refine wpList_load_mid rfl 34 (.tmp 13) rfl (g + 1) 0 rfl (⟨0, (p0 : Int), (p1 : Int), pv, V.length, cv, 0, none, 0, 0, ⟨#[]⟩, ⟨#[]⟩⟩ : Rep).cl _ (unhide HRG) Tryz.underlying34 rfl size_rep ?_ | refine wpList_store_row rfl 34 (.tmp 12) (.tmp 105) rfl g (⟨0, (p0 : Int), (p1 : Int), pv, V.length, cv, 0, none, 0, 0, ⟨#[]⟩, ⟨#[]⟩⟩ : Rep).cs rfl rfl 34 #[.int .i64 0, .int .i64 0, .int .i64 0, .slice none 0 0, .int .i64 0, .slice none 0 0, .string ⟨#[]⟩, .string ⟨#[]⟩] (unhide HZ) size_rep rfl (unhide HO) ?_)
      (try simp only [Exit.inBlock, Exit.then])
      refine bodyPost_ret (results_cell rfl _ _ _ ⟨g, 0, none⟩ rfl _ (unhide HL0)) rfl ?_
      exact ⟨RpQ.of (unhide HG), unhide HF⟩
def POk (V : List Int) : Prop := ∀ j, j < V.length → 0 ≤ V.getD j 0 ∧ V.getD j 0 ≤ 255
theorem POk.snoc {V : List Int} {x : Int} (h : POk V) (hx : 0 ≤ x ∧ x ≤ 255) : POk (V ++ [x]) := fun j hj => by
  rw [List.length_append] at hj
  have hj' : j < V.length + 1 := hj
  by_cases e : j < V.length
  · rw [getD_snoc_old e]
    exact h j e
  · obtain rfl : j = V.length := by omega
    rw [getD_snoc_new]
    exact hx
theorem POk.plB {V : List Int} (h : POk V) (h8 : V.length = 8) : Go.Proofs.YtclgkgaobjcifaaGreatDoor.plB V = true := decide_eq_true ⟨h8, h⟩
set_option maxHeartbeats 4000000 in
theorem rp12_8 {w : World} (k : Nat) (status a b : Int) (hst : I64 status) (ha : I64 a) (hb : I64 b) (p : Option Addr) (n c : Nat) (L : List Int) (hn : L.length = n) (hL : Lst w w.heap.size p L) (hI : ∀ j, I64 (L.getD j 0)) (hn9 : n ≤ 9223372036854775807) (s : ByteArray) (hs : s.size ≤ 140737488351232) (hk : k ≤ 12) (hq : pickP status 14 = 1) (h8k : k = 8) :
    Calls Tryz.prog 13 #[.int .i64 (k : Int), .int .i64 status, .int .i64 a, .int .i64 b, .slice p n c, .string s] w fun e w' => RpQ (k : Int) e w' ∧ Below w.heap.size w w' := by
  have HU := hide (And.intro ha (And.intro hb (And.intro hs (And.intro hI (And.intro hk (And.intro hL (And.intro hn hn9)))))))
  clear HU
  subst h8k
  obtain ⟨i0, hi, hx0, hx1, hx2⟩ := info_parts info3w
  have HIN := hide (And.intro hi (And.intro hx0 (And.intro hx1 hx2)))
  have HPI := hide (fun (j : Nat) (W : World) => pick12_any (L.getD j 0) 256 (by decide) (hI j) 256 rfl W)
  have HPL := hide (fun (j : Nat) => pickP_lt (L.getD j 0) 256 (by decide))
  clear hi hx0 hx1 hx2
  have HP0 := hide (fun W => pick12_any a 4294967296 (by decide) ha 4294967296 rfl W)
  have l0 := pickP_lt a 4294967296 (by decide)
  generalize pickP a 4294967296 = p0 at *
  clear ha hb hs hI
  have HPS := hide (fun W => pick12_any status 14 (by decide) hst 14 rfl W)
  have lst := pickP_lt status 14 (by decide)
  simp only [hq, Int.cast_ofNat_Int] at HPS
  obtain ⟨B1, B2, hbl, hs2⟩ := two_boxes w #[.int .i64 0, .int .i64 0, .int .i64 0, .slice none 0 0, .int .i64 0, .slice none 0 0, .string ⟨#[]⟩, .string ⟨#[]⟩] #[.int .i64 0, .int .i64 0, .int .i64 0, .slice none 0 0, .int .i64 0, .slice none 0 0, .string ⟨#[]⟩, .string ⟨#[]⟩] 34 34
  obtain ⟨g, hg⟩ : ∃ g, w.heap.size = g := ⟨_, rfl⟩
  rw [hg] at B1 B2 hs2 hbl hL ⊢
  obtain ⟨y, hy⟩ : ∃ Z, (w.alloc (.cells #[.int .i64 0, .int .i64 0, .int .i64 0, .slice none 0 0, .int .i64 0, .slice none 0 0, .string ⟨#[]⟩, .string ⟨#[]⟩] 34)).alloc (.cells #[.int .i64 0, .int .i64 0, .int .i64 0, .slice none 0 0, .int .i64 0, .slice none 0 0, .string ⟨#[]⟩, .string ⟨#[]⟩] 34) = Z := ⟨_, rfl⟩
  rw [hy] at B1 B2 hbl hs2
  have C2 := blk_setRow (cells := (Rep.bare 1).cs) B2
  have C1 : Blk (y.setRow (g + 1) (Rep.bare 1).cs) g _ _ := blk_setRow_other B1 (by omega)
  have hO1 : Below g w (y.setRow (g + 1) (Rep.bare 1).cs) := below_setRow hbl (by omega) _
  have hS2 : g + 2 ≤ (y.setRow (g + 1) (Rep.bare 1).cs).heap.size := by have := (only_setRow (w := y) (P := fun j => j = g + 1) (g + 1) (Rep.bare 1).cs rfl).size; omega
  obtain ⟨y2, hy2⟩ : ∃ Z, y.setRow (g + 1) (Rep.bare 1).cs = Z := ⟨_, rfl⟩
  have HZ0 := hide B2
  rw [hy2] at C1 C2 hO1 hS2
  have HY := hide (show Blk y2 g #[.int .i64 0, .int .i64 0, .int .i64 0, .slice none 0 0, .int .i64 0, .slice none 0 0, .string ⟨#[]⟩, .string ⟨#[]⟩] 34 ∧ Blk y2 (g + 1) (Rep.bare 1).cs 34 ∧ Below g w y2 ∧ g + 2 ≤ y2.heap.size from ⟨C1, C2, hO1, hS2⟩)
  have HB0 := hide (built_rep 1)
  have HO0 := hide (Rep.one (Rep.bare 1))
  have c0 : y2.cell? ⟨g + 1, 0, none⟩ = some (.int .i64 1) := C2.cell 0
  clear B1 B2 hbl hs2 C1 C2 hO1 hst hS2
  have HLL := hide hL
  have HNN := hide hn
  clear hL hn hq
  simp only [Int.cast_ofNat_Int]
  go_enter Tryz.func13, Tryz.ntmps13
  go_wp2_with fail
  refine (unhide HPS _).mono ?_
  rintro e x ⟨rfl, hx⟩
  subst x
  go_wp2_with (first | refine wpList_buildAs rfl 34 #[(0, .tmp 19)] rfl _ rfl (Rep.bare 1).cs (unhide HB0) ?_ | refine wpList_store_row rfl 34 (.tmp 13) (.tmp 20) rfl (g + 1) (Rep.bare 1).cs rfl rfl 34 #[.int .i64 0, .int .i64 0, .int .i64 0, .slice none 0 0, .int .i64 0, .slice none 0 0, .string ⟨#[]⟩, .string ⟨#[]⟩] (unhide HZ0) size_rep rfl (unhide HO0) ?_)
  refine (unhide HP0 _).mono ?_
  rintro e x ⟨rfl, hx⟩
  subst x
  clear hy hy2
  have cf0 : y2.cell? ⟨g + 1, 4, none⟩ = some (.int .i64 0) := by rw [(unhide HY).2.1.cell]; rfl
  have ff0 : y2.frozen? ⟨g + 1, 4, none⟩ = false := (unhide HY).2.1.frozen 4
  obtain ⟨y3, hy3⟩ : ∃ Z, y2.setCell ⟨g + 1, 4, none⟩ (.int .i64 (p0 : Int)) = Z := ⟨_, rfl⟩
  have HY1 := hide (show Blk y3 g #[.int .i64 0, .int .i64 0, .int .i64 0, .slice none 0 0, .int .i64 0, .slice none 0 0, .string ⟨#[]⟩, .string ⟨#[]⟩] 34 ∧ Blk y3 (g + 1) (⟨1, 0, 0, none, 0, 0, (p0 : Int), none, 0, 0, ⟨#[]⟩, ⟨#[]⟩⟩ : Rep).cs 34 ∧ Below g w y3 ∧ g + 2 ≤ y3.heap.size from by
    rw [← hy3]
    obtain ⟨q1, q2, q3, q4⟩ := unhide HY
    exact ⟨q1.other _ _ (by show g + 1 ≠ g; omega), q2.set 4 (.int .i64 (p0 : Int)), q3.setCell (by show g ≤ g + 1; omega) _, by simpa using q4⟩)
  have HG0 := hide (show GL w g 5 #[.int .i64 1, .int .i64 0, .int .i64 0, .slice none 0 0, .int .i64 (p0 : Int), .slice none 0 0, .string ⟨#[]⟩, .string ⟨#[]⟩] y3 [] (.slice none 0 0) from ⟨(unhide HY1).1, (unhide HY1).2.1, (unhide HY1).2.2.1, World.ownsRow_nil _ _ _ _, (unhide HY1).2.2.2⟩)
  go_wp2_with fail
  go_loopw [14] (fun v wr => ∃ (V : List Int) (pv : Option Addr) (cv : Nat), V.length ≤ 8 ∧ v = .int .i64 (V.length : Int) ∧ POk V ∧ GL w g 5 #[.int .i64 1, .int .i64 0, .int .i64 0, .slice none 0 0, .int .i64 (p0 : Int), .slice none 0 0, .string ⟨#[]⟩, .string ⟨#[]⟩] wr V (.slice pv V.length cv)) (fun v _ => 8 - (intOf v).toNat)
  case atStart => exact ⟨[], none, 0, by decide, rfl, fun j hj => absurd hj (by simp), unhide HG0⟩
  case round =>
    obtain ⟨V, pv, cv, h8, rfl, hVO, hGL⟩ := hrel
    have HVO := hide hVO
    have HGL := hide hGL
    clear hVO hGL HG0
    obtain ⟨m, hm⟩ : ∃ m, V.length = m := ⟨_, rfl⟩
    have HM := hide hm
    rw [hm] at h8 ⊢
    by_cases q2 : m < 8
    · have i2 : (m : Int) < 8 := by omega
      have i3 : 0 ≤ (m : Int) := by omega
      by_cases q1 : m < n
      · have i1 : (m : Int) < (n : Int) := by omega
        obtain ⟨gl, ol, rfl, hgl, hc⟩ := (unhide HLL).below (unhide HGL).lo m (by rw [unhide HNN]; exact q1)
        have HPX := hide (unhide HPI m)
        have lx := unhide HPL m
        obtain ⟨x, hx⟩ : ∃ x, L.getD m 0 = x := ⟨_, rfl⟩
        rw [hx] at HPX lx hc
        generalize pickP x 256 = px at *
        clear hx
        as_aux_lemma =>
          go_wp2_with fail
          refine (unhide HPX _).mono ?_
          rintro e z ⟨rfl, hz⟩
          subst z
          clear hc HPX
          obtain ⟨X, hX⟩ : ∃ X : Int, (px : Int) = X := ⟨_, rfl⟩
          have HXL := hide (show 0 ≤ X ∧ X ≤ 255 from by rw [← hX]; omega)
          rw [hX]
          have c3 : wr.cell? ⟨g + 1, 5, none⟩ = some (.slice pv m cv) := by
            have := (unhide HGL).b2.cell 5
            rw [unhide HM] at this
            exact this
          have HRA := hide (show (wr.alloc (.cells #[.int .i64 X] 3)).ownsRow (g + 2) 3 1 (.slice pv m cv) m (V.map (Value.int .i64)) from by
            have h9 := own_onlyW (unhide HGL).row (Only.of_below (P := fun _ => False) (show Below wr.heap.size wr (wr.alloc (.cells #[.int .i64 X] 3)) from (Below.refl _ _).alloc (Nat.le_refl _) _)) (fun _ _ q => q)
            rw [unhide HM] at h9
            exact h9)
          have HLE := hide (show g + 2 ≤ (wr.alloc (.cells #[.int .i64 X] 3)).heap.size from by rw [World.size_alloc]; have := (unhide HGL).sz; omega)
          go_wp2_with (refine wpList_append_lies _ rfl (.tmp 46) (.tmp 48) 22 rfl (g + 2) 3 i0 (.int .i64 0) 1 8 Tryz.underlying22 (unhide HIN).1 (unhide HIN).2.1 (unhide HIN).2.2.1 (unhide HIN).2.2.2 rfl (by decide) _ m (V.map (Value.int .i64)) rfl (unhide HRA) ⟨wr.heap.size, 0, none⟩ 1 1 [.int .i64 X] rfl rfl (fun q u hu => news_oneW wr 3 _ q u hu) (by simp [Value.oneCell']) (by omega) (by unfold maxLen; omega) (by omega) (unhide HLE) _ rfl ?_)
          intro g1 c1 y9 ho9 hg9 hor9 hlt9
          have hps := (unhide HGL).push (f := 5) (x := X) (y := y9) (g1 := g1) (c1 := c1) (by show 5 < 8; decide) (by rw [unhide HM]; exact ho9) (by rw [unhide HM]; exact hg9)
          rw [unhide HM] at hps
          have c9 := hps.2.1
          have f9 := hps.2.2
          have HPS9 := hide hps.1
          have HVS := hide ((unhide HVO).snoc (unhide HXL))
          have HL9 := hide (show (V ++ [X]).length = m + 1 from by rw [List.length_append, unhide HM]; rfl)
          clear hps ho9 hg9 hor9 hlt9 HRA HLE c3
          go_wp2
          go_roundw
          case rel => exact ⟨V ++ [X], _, c1, by rw [unhide HL9]; omega, by rw [unhide HL9]; go_num, unhide HVS, by rw [unhide HL9]; exact unhide HPS9⟩
          case measure => simp [intOf]; omega
      · have i1 : ¬ ((m : Int) < (n : Int)) := by omega
        clear q1
        as_aux_lemma =>
          have HXL := hide (show 0 ≤ (m : Int) ∧ (m : Int) ≤ 255 from by omega)
          have c3 : wr.cell? ⟨g + 1, 5, none⟩ = some (.slice pv m cv) := by
            have := (unhide HGL).b2.cell 5
            rw [unhide HM] at this
            exact this
          have HRA := hide (show (wr.alloc (.cells #[.int .i64 (m : Int)] 3)).ownsRow (g + 2) 3 1 (.slice pv m cv) m (V.map (Value.int .i64)) from by
            have h9 := own_onlyW (unhide HGL).row (Only.of_below (P := fun _ => False) (show Below wr.heap.size wr (wr.alloc (.cells #[.int .i64 (m : Int)] 3)) from (Below.refl _ _).alloc (Nat.le_refl _) _)) (fun _ _ q => q)
            rw [unhide HM] at h9
            exact h9)
          have HLE := hide (show g + 2 ≤ (wr.alloc (.cells #[.int .i64 (m : Int)] 3)).heap.size from by rw [World.size_alloc]; have := (unhide HGL).sz; omega)
          go_wp2_with (refine wpList_append_lies _ rfl (.tmp 46) (.tmp 48) 22 rfl (g + 2) 3 i0 (.int .i64 0) 1 8 Tryz.underlying22 (unhide HIN).1 (unhide HIN).2.1 (unhide HIN).2.2.1 (unhide HIN).2.2.2 rfl (by decide) _ m (V.map (Value.int .i64)) rfl (unhide HRA) ⟨wr.heap.size, 0, none⟩ 1 1 [.int .i64 (m : Int)] rfl rfl (fun q u hu => news_oneW wr 3 _ q u hu) (by simp [Value.oneCell']) (by omega) (by unfold maxLen; omega) (by omega) (unhide HLE) _ rfl ?_)
          intro g1 c1 y9 ho9 hg9 hor9 hlt9
          have hps := (unhide HGL).push (f := 5) (x := (m : Int)) (y := y9) (g1 := g1) (c1 := c1) (by show 5 < 8; decide) (by rw [unhide HM]; exact ho9) (by rw [unhide HM]; exact hg9)
          rw [unhide HM] at hps
          have c9 := hps.2.1
          have f9 := hps.2.2
          have HPS9 := hide hps.1
          have HVS := hide ((unhide HVO).snoc (unhide HXL))
          have HL9 := hide (show (V ++ [(m : Int)]).length = m + 1 from by rw [List.length_append, unhide HM]; rfl)
          clear hps ho9 hg9 hor9 hlt9 HRA HLE c3
          go_wp2
          go_roundw
          case rel => exact ⟨V ++ [(m : Int)], _, c1, by rw [unhide HL9]; omega, by rw [unhide HL9]; go_num, unhide HVS, by rw [unhide HL9]; exact unhide HPS9⟩
          case measure => simp [intOf]; omega
    · have i2 : ¬ ((m : Int) < 8) := by omega
      rw [← unhide HM]
      rw [← unhide HM] at h8 i2 q2
      clear hm
      have HVB := hide ((unhide HVO).plB (by omega))
      have HYF := hide (show Blk wr g #[.int .i64 0, .int .i64 0, .int .i64 0, .slice none 0 0, .int .i64 0, .slice none 0 0, .string ⟨#[]⟩, .string ⟨#[]⟩] 34 ∧ Blk wr (g + 1) (⟨1, 0, 0, none, 0, 0, (p0 : Int), pv, V.length, cv, ⟨#[]⟩, ⟨#[]⟩⟩ : Rep).cs 34 ∧ Below g w wr from ⟨(unhide HGL).b1, (unhide HGL).b2, (unhide HGL).lo⟩)
      have c0 : wr.cell? ⟨g + 1, 0, none⟩ = some (.int .i64 1) := by rw [(unhide HYF).2.1.cell]; rfl
      have BT := blk_setRow (cells := (⟨1, 0, 0, none, 0, 0, (p0 : Int), pv, V.length, cv, ⟨#[]⟩, ⟨#[]⟩⟩ : Rep).cs) (unhide HYF).1
      have HL0 := hide (iload_blk 34 _ BT Tryz.underlying34 rfl size_rep)
      have HRG := hide (show wr.rangeAt (g + 1) 0 (⟨1, 0, 0, none, 0, 0, (p0 : Int), pv, V.length, cv, ⟨#[]⟩, ⟨#[]⟩⟩ : Rep).cl from blk_range (unhide HYF).2.1)
      have HZ := hide (unhide HYF).1
      have HO := hide (Rep.one (⟨1, 0, 0, none, 0, 0, (p0 : Int), pv, V.length, cv, ⟨#[]⟩, ⟨#[]⟩⟩ : Rep))
      have HF := hide (show Below g w (wr.setRow g (⟨1, 0, 0, none, 0, 0, (p0 : Int), pv, V.length, cv, ⟨#[]⟩, ⟨#[]⟩⟩ : Rep).cs) from below_setRow (unhide HYF).2.2 (Nat.le_refl _) _)
      have HG := hide (show GoodP ((8 : Nat) : Int) (⟨1, 0, 0, none, 0, 0, (p0 : Int), pv, V.length, cv, ⟨#[]⟩, ⟨#[]⟩⟩ : Rep) [] V (wr.setRow g (⟨1, 0, 0, none, 0, 0, (p0 : Int), pv, V.length, cv, ⟨#[]⟩, ⟨#[]⟩⟩ : Rep).cs) from ⟨⟨by show (0 : Int) ≤ 1; decide, by show (1 : Int) ≤ 13; decide⟩, by
        rw [lyB_full (k := ((8 : Nat) : Int)) (r := (⟨1, 0, 0, none, 0, 0, (p0 : Int), pv, V.length, cv, ⟨#[]⟩, ⟨#[]⟩⟩ : Rep)) rfl]
        unfold lgB
        rw [show rpF ((8 : Nat) : Int) = [fNon, fPla] from rfl, layG_ok (f := fNon) (r := (⟨1, 0, 0, none, 0, 0, (p0 : Int), pv, V.length, cv, ⟨#[]⟩, ⟨#[]⟩⟩ : Rep)) (decide_eq_true (p := ((0 : Nat) : Int) ≤ (p0 : Int) ∧ (p0 : Int) ≤ ((4294967295 : Nat) : Int)) ⟨by omega, by omega⟩), layG_ok (f := fPla) (r := (exr fNon (⟨1, 0, 0, none, 0, 0, (p0 : Int), pv, V.length, cv, ⟨#[]⟩, ⟨#[]⟩⟩ : Rep) Prt.nil).1) (unhide HVB)]
        exact bareP_mk _ _ _ _ _, rfl, rfl, ⟨Nat.zero_le _, by show V.length ≤ 8; omega⟩, Lst.nil _ _ _, (unhide HGL).lst.2⟩)
      clear BT
      go_wp2_with (first | refine wpList_load_mid rfl 34 (.tmp 13) rfl (g + 1) 0 rfl (⟨1, 0, 0, none, 0, 0, (p0 : Int), pv, V.length, cv, ⟨#[]⟩, ⟨#[]⟩⟩ : Rep).cl _ (unhide HRG) Tryz.underlying34 rfl size_rep ?_ | refine wpList_store_row rfl 34 (.tmp 12) (.tmp 54) rfl g (⟨1, 0, 0, none, 0, 0, (p0 : Int), pv, V.length, cv, ⟨#[]⟩, ⟨#[]⟩⟩ : Rep).cs rfl rfl 34 #[.int .i64 0, .int .i64 0, .int .i64 0, .slice none 0 0, .int .i64 0, .slice none 0 0, .string ⟨#[]⟩, .string ⟨#[]⟩] (unhide HZ) size_rep rfl (unhide HO) ?_)
      (try simp only [Exit.inBlock, Exit.then])
      refine bodyPost_ret (results_cell rfl _ _ _ ⟨g, 0, none⟩ rfl _ (unhide HL0)) rfl ?_
      exact ⟨RpQ.of (unhide HG), unhide HF⟩
theorem reply12_any {w : World} (k : Nat) (status a b : Int) (hst : I64 status) (ha : I64 a) (hb : I64 b) (p : Option Addr) (n c : Nat) (L : List Int) (hn : L.length = n) (hL : Lst w w.heap.size p L) (hI : ∀ j, I64 (L.getD j 0)) (hn9 : n ≤ 9223372036854775807) (s : ByteArray) (hs : s.size ≤ 140737488351232) (hk : k ≤ 12) :
    Calls Tryz.prog 13 #[.int .i64 (k : Int), .int .i64 status, .int .i64 a, .int .i64 b, .slice p n c, .string s] w fun e w' => RpQ (k : Int) e w' ∧ Below w.heap.size w w' := by
  by_cases h8 : k = 8 ∧ pickP status 14 = 1
  · exact rp12_8 k status a b hst ha hb p n c L hn hL hI hn9 s hs hk h8.2 h8.1
  by_cases h0 : pickP status 14 = 0
  · by_cases h3 : k = 3
    · exact rp12_3 k status a b hst ha hb p n c L hn hL hI hn9 s hs hk h0 h3
    by_cases h6 : k = 6
    · exact rp12_6 k status a b hst ha hb p n c L hn hL hI hn9 s hs hk h0 h6
    by_cases h7 : k = 7
    · exact rp12_7 k status a b hst ha hb p n c L hn hL hI hn9 s hs hk h0 h7
    by_cases h11 : k = 11
    · exact rp12_11 k status a b hst ha hb p n c L hn hL hI hn9 s hs hk h0 h11
    exact rp12_no k status a b hst ha hb p n c L hn hL hI hn9 s hs hk h0 h3 h6 h7 h11
  · exact rp12_st k status a b hst ha hb p n c L hn hL hI hn9 s hs hk _ rfl h0 h8
end Go.Proofs.YtclgkgaobjcifaaGreatDoor
