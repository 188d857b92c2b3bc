import Derived.Test.YtkmgbicacbalfabDoorRcd
namespace Go.Proofs.YtkmgbicacbalfabDoor
open Go.RowKit
def Fst (w : World) (p : Option Addr) (n : Nat) (z : Int) : Prop := I64 z ∧ ((n = 0 ∧ z = 0) ∨ (0 < n ∧ ∃ b o, p = some ⟨b, o, none⟩ ∧ b < w.heap.size ∧ w.cell? ⟨b, o, none⟩ = some (.int .i64 z)))
theorem first_any (w : World) (p : Option Addr) (n c : Nat) (z : Int) (h : Fst w p n z) (W : World) (hb : Below w.heap.size w W) : Calls Tryd.prog 12 #[.slice p n c] W fun e w' => e = .returned (.int .i64 z) ∧ w' = W := by
  rcases h.2 with ⟨rfl, rfl⟩ | ⟨hn, b, o, rfl, hlt, hc⟩
  · exact first_none p c W
  · exact first_some b o n c hn z W (by rw [hb.cell (p := ⟨b, o, none⟩) hlt]; exact hc)
theorem info9s : (Tryd.prog.info? 9).map (fun i => (i.zero, i.size, i.bytes)) = some (some (.string ⟨#[]⟩), 1, 16) := by kernel_rfl
def RcdOk (T : ByteArray) (i : Nat) : Prop := ∃ A B : Nat, A < 9223372036854775807 ∧ B < 4294967296 ∧ T = rcd (A : Int) (B : Int) (i : Int)
def rowT (T : Nat → ByteArray) (j : Nat) : List Value := (List.range j).map (fun i => Value.string (T i))
structure RInv (w : World) (j : Nat) (T : Nat → ByteArray) (v : Value) (wr : World) : Prop where
  ok : ∀ i, RcdOk (T i) i
  row : wr.ownsRow w.heap.size 9 1 v j (rowT T j)
  bel : Below w.heap.size w wr
theorem rowT_set (T : Nat → ByteArray) (j : Nat) (t : ByteArray) : rowT T j ++ [.string t] = rowT (fun i => if i = j then t else T i) (j + 1) := by
  unfold rowT
  rw [List.range_succ, List.map_append]
  congr 1
  · refine List.map_congr_left fun i hi => ?_
    have : i < j := List.mem_range.1 hi
    simp only []
    rw [if_neg (by omega)]
  · simp
theorem wpList_appS (W : World) {ops : Array Oper} {rest : List Oper} {o : Oper} {a : Act} {Q : Exit → Act → World → Prop}
    (hg : o.guard = none) (s x : Operand) (hop : o.op = Op.call { callee := Callee.builtin Builtin.append, args := #[s, x], argTypes := #[58, 58] })
    {w : World} {j : Nat} {T : Nat → ByteArray} {v : Value} (hP : RInv w j T v W) (hs : a.eval s = v)
    (g : Nat) (t : ByteArray) (hx : a.eval x = .slice (some ⟨g, 0, none⟩) 1 1) (hc : W.cell? ⟨g, 0, none⟩ = some (.string t)) (hsz : j < 100) (ht : RcdOk t j)
    (h : ∀ v' W', RInv w (j + 1) (fun i => if i = j then t else T i) v' W' → wpList Tryd.prog ops Q rest (a.put o.dst v') W') : wpList Tryd.prog ops Q (o :: rest) a W := by
  obtain ⟨i0, hi, hz0, hz1, hz2⟩ := info_parts info9s
  refine wpList_append_own W hg s x 58 hop w.heap.size 9 i0 (.string ⟨#[]⟩) 1 16 Tryd.underlying58 hi hz0 hz1 hz2 rfl (by decide) v j (rowT T j) hs hP.row ⟨g, 0, none⟩ 1 1 [.string t] hx rfl (fun q u hu => ?_) (by simp [Value.oneCell']) (by unfold maxLen; omega) (by omega) hP.bel.size (fun v' W' ho hgr _ => ?_)
  · cases q with
    | zero => simp at hu; subst hu; rw [Addr.add_mid]; exact hc
    | succ q => simp at hu
  · refine h v' W' ⟨fun i => ?_, ?_, ?_⟩
    · by_cases hij : i = j
      · subst hij; simp only [if_true]; exact ht
      · simp only [hij, if_false]; exact hP.ok i
    · rw [← rowT_set]; exact ho
    · exact hP.bel.grown hgr hP.bel.size (fun k hk => (hP.row.lt k hk).1)
theorem wnumK {w wr : World} {base b : Nat} {v : Value} {l : List Int} (h : WPost base b v l 0 w wr) (hb : base ≤ w.heap.size) (k : Nat) (h1 : 1 ≤ k) (h8 : k ≤ 8) (n : Int) (hf : fitsP n k) (hsz : l.length ≤ 1000) (K : Int) (hK : K = (k : Int)) (l' : List Int) (hl : l ++ numB n k = l') :
    Calls Tryd.prog 9 #[.pointer (some ⟨b, 0, none⟩), .int .i64 K, .slice (some ⟨wr.heap.size, 0, none⟩) 1 1] (wr.alloc (Obj.cells #[.int .i64 n] 3)) fun ev w' => ev = .returned (.tuple #[]) ∧ WPost base b v l' 0 w w' := by
  subst hK
  refine (numK h hb (k : Int) [n] #[.int .i64 n] rfl (by simp; omega) 1 rfl).mono ?_
  rintro ev w' ⟨rfl, hp⟩
  have hE : errN (k : Int) [n] = 0 := by
    rw [errN, if_neg (by omega), if_pos]
    intro m hm
    simp at hm
    subst hm
    exact hf
  rw [hE, wl_good, we_good] at hp
  have ho : outN ((k : Int).toNat) [n] = numB n k := by simp [outN]
  rw [ho, hl] at hp
  exact ⟨rfl, hp⟩
theorem fits8 (A : Nat) (h : A < 9223372036854775808) : fitsP (A : Int) 8 := by
  refine ⟨by omega, Int.ediv_eq_zero_of_lt (by omega) ?_⟩
  have e : (2 : Int) ^ (8 * 8) = 18446744073709551616 := by decide
  rw [e]
  omega
theorem ownsRow_belowR {w w' : World} {B : Nat} {e : TypeId} {k n : Nat} {v : Value} {xs : List Value} (h : w.ownsRow B e k v n xs) (hb : Below w.heap.size w w') : w'.ownsRow B e k v n xs := owns_only h (Only.of_below (P := fun _ => False) hb) (fun _ _ q => q)
theorem own_form {w : World} {B : Nat} {e : TypeId} {k n : Nat} {v : Value} {xs : List Value} (h : w.ownsRow B e k v n xs) (hn : 0 < n) : ∃ g cap, v = .slice (some ⟨g, 0, none⟩) n cap := by
  rcases h.2 with ⟨h1, h2⟩ | ⟨g, cap, cur, h1, _⟩
  · omega
  · exact ⟨g, cap, h1⟩
theorem ety_onlyR {w w' : World} {b : Nat} {s : RSt} (hg : ETy w) (h : Rds w b s) (ho : Only (fun k => k = b) w w') : ETy w' := hg.only ho (fun q => h.ne hg q.symm)
theorem rnumK {w : World} {b : Nat} {k : Nat} {A : Int} {L : List Int} {t : Int} (h : Rds w b ⟨strOfNums (numB A k ++ L), t, 0⟩) (hg : ETy w) (h1 : 1 ≤ k) (h8 : k ≤ 8) (hf : fitsP A k) (hA : A ≤ 9223372036854775807) (hL : Bytes L) (ht : 0 ≤ t) (hs : t + ((k + L.length : Nat) : Int) ≤ 9223372036854775807) (K : Int) (hK : K = (k : Int)) (t' : Int) (ht' : t + (k : Int) = t') :
    Calls Tryd.prog 17 #[.pointer (some ⟨b, 0, none⟩), .int .i64 K] w fun ev w' => ev = .returned (.int .i64 A) ∧ Rds w' b ⟨strOfNums L, t', 0⟩ ∧ Only (fun k => k = b) w w' := by
  subst hK
  obtain ⟨q1, q2, q3⟩ := num_step k h1 h8 A hf hA L hL t
  refine (numS w b ⟨strOfNums (numB A k ++ L), t, 0⟩ h hg ⟨ht, by show t + (((strOfNums (numB A k ++ L)).size : Nat) : Int) ≤ _; rw [strOfNums_size, List.length_append, numB_len]; exact hs⟩ (k : Int)).mono ?_
  rintro ev w' ⟨rfl, g1, g2⟩
  refine ⟨by simp only [if_true]; rw [q2], ?_, g2⟩
  rw [q3, ht'] at g1
  exact g1
theorem rinv_below {w : World} {j : Nat} {T : Nat → ByteArray} {v : Value} {wr w2 : World} (h : RInv w j T v wr) (hb : Below wr.heap.size wr w2) : RInv w j T v w2 := ⟨h.ok, ownsRow_belowR h.row hb, h.bel.trans (hb.mono h.bel.size)⟩
theorem rinv_alloc {w : World} {j : Nat} {T : Nat → ByteArray} {v : Value} {wr : World} (h : RInv w j T v wr) (o : Obj) : RInv w j T v (wr.alloc o) := ⟨h.ok, h.row.alloc o, h.bel.alloc h.bel.size o⟩
set_option maxRecDepth 100000 in
set_option maxHeartbeats 8000000 in
theorem record_walk (pr : Option Addr) (rl rc : Nat) (k0 : Int) (hk0 : I64 k0) (pl : Option Addr) (ll lc : Nat) (z0 : Int) (w : World) (hg : ETy w) (hfl : Fst w pl ll z0)
    (hrec : ∀ i, i < rl → ∃ rb ro p n c z, pr = some ⟨rb, ro, none⟩ ∧ rb < w.heap.size ∧ w.cell? ⟨rb, ro + i, none⟩ = some (.slice p n c) ∧ n ≤ 9223372036854775807 ∧ Fst w p n z) :
    Calls Tryd.prog 7 #[.slice pr rl rc, .int .i64 k0, .slice pl ll lc] w fun e w' => e = .returned (.bool true) ∧ Below w.heap.size w w' := by
  have HC := hide hrec
  have HF := hide hfl
  have X0 := hide (show RInv w 0 (fun i => rcd ((0 : Nat) : Int) ((0 : Nat) : Int) (i : Int)) (.slice none 0 0) w from ⟨fun i => ⟨0, 0, by decide, by decide, rfl⟩, World.ownsRow_nil _ _ _ _, Below.refl _ _⟩)
  have HG := hide hg
  clear hrec hfl hg
  go_enter Tryd.func7, Tryd.ntmps7
  go_wp2
  go_loopw [7, 8] (fun u i wr => ∃ (j : Nat) (T : Nat → ByteArray), j ≤ 12 ∧ i = .int .i64 (j : Int) ∧ RInv w j T u wr) (fun _ i _ => 12 - (intOf i).toNat)
  case atStart => exact ⟨0, _, by omega, rfl, unhide X0⟩
  case round =>
    obtain ⟨j, T, hj, rfl, hI⟩ := hrel
    obtain ⟨wo, rfl⟩ : ∃ wo, wo = wr := ⟨_, rfl⟩
    obtain ⟨v, rfl⟩ : ∃ v, v = u7 := ⟨_, rfl⟩
    have XI := hide hI
    clear hI X0
    by_cases hj12 : j < 12
    · by_cases hjr : j < rl
      · go_wp2_with fail
        refine (newWriter_any _).mono ?_
        rintro ev x1 ⟨rfl, hW1, hB1, hz1⟩
        have P1 := hide (WPost.refl hW1)
        have B1 := hide hB1
        have hz1' : wo.heap.size ≤ x1.heap.size := hB1.size
        clear hW1 hB1 hz1
        obtain ⟨rb, ro, p, n, c, z, hpr, hrb, hcl, hn47, hfs⟩ := unhide HC j hjr
        subst hpr
        have cr : x1.cell? ⟨rb, ro + j, none⟩ = some (.slice p n c) := by rw [((unhide XI).bel.trans ((unhide B1).mono (unhide XI).bel.size)).cell (p := ⟨rb, ro + j, none⟩) hrb]; exact hcl
        have hIz := hfs.1
        have HFS := hide hfs
        have HB01 := hide ((unhide XI).bel.trans ((unhide B1).mono (unhide XI).bel.size))
        clear hcl hfs
        go_wp2_with fail
        refine (first_any w p n c z (unhide HFS) _ (unhide HB01)).mono ?_
        rintro ev wf ⟨rfl, rfl⟩
        clear HFS HB01
        go_wp2_with fail
        refine (pick_c z 9223372036854775807 (by decide) hIz 9223372036854775807 rfl _).mono ?_
        rintro ev wa ⟨rfl, rfl⟩
        have lA := pickP_lt z 9223372036854775807 (by decide)
        generalize pickP z 9223372036854775807 = A at *
        go_wp2_with fail
        refine (wnumK (unhide P1) (by omega) 8 (by decide) (by decide) (A : Int) (fits8 A (by omega)) (by simp) 8 rfl _ rfl).mono ?_
        rintro ev x2 ⟨rfl, hP2⟩
        have P2 := hide hP2
        clear hP2 P1
        go_wp2_with fail
        refine (pick_c (n : Int) 4294967296 (by decide) ⟨by omega, by omega⟩ 4294967296 rfl _).mono ?_
        rintro ev wb ⟨rfl, rfl⟩
        have lB := pickP_lt (n : Int) 4294967296 (by decide)
        generalize pickP (n : Int) 4294967296 = B at *
        go_wp2_with fail
        refine (wnumK (unhide P2) (by omega) 4 (by decide) (by decide) (B : Int) ((fits4 (B : Int)).2 (by omega)) (by simp [numB_len]) 4 rfl _ rfl).mono ?_
        rintro ev x3 ⟨rfl, hP3⟩
        have P3 := hide hP3
        clear hP3 P2
        go_wp2_with fail
        refine (wnumK (unhide P3) (by omega) 8 (by decide) (by decide) (j : Int) (fits8 j (by omega)) (by simp [numB_len]) 8 rfl (rcdL (A : Int) (B : Int) (j : Int)) (by simp [rcdL])).mono ?_
        rintro ev x4 ⟨rfl, hP4⟩
        have P4 := hide hP4
        clear hP4 P3
        go_wp2_with fail
        refine (doneK (unhide P4)).mono ?_
        rintro ev x5 ⟨rfl, hP5⟩
        have hRc : strOfNums (rcdL (A : Int) (B : Int) (j : Int)) = rcd (A : Int) (B : Int) (j : Int) := rfl
        rw [hRc]
        have X5 := hide (show RInv w j T v x5 from by
          obtain ⟨v1, g1, g2, g3⟩ := hP5
          have hO : Only (fun k => k = wo.heap.size) _ x5 := g2.mono (fun k hk q => by
            rcases q with q | q
            · exact q
            · cases q)
          have hb15 : Below wo.heap.size wo x5 := (unhide B1).trans (hO.below (unhide B1).size (fun k hk q => by have q : k = wo.heap.size := q; omega))
          exact ⟨(unhide XI).ok, ownsRow_belowR (unhide XI).row hb15, (unhide XI).bel.trans (hb15.mono (unhide XI).bel.size)⟩)
        have hRk : RcdOk (rcd (A : Int) (B : Int) (j : Int)) j := ⟨A, B, lA, lB, rfl⟩
        have hR20 : (rcd (A : Int) (B : Int) (j : Int)).size = 20 := rcd_size _ _ _
        generalize rcd (A : Int) (B : Int) (j : Int) = R at *
        have HRk := hide hRk
        clear hP5 P4 B1 XI hRc hRk
        go_wp2_with (at_builtin; refine wpList_appS _ rfl _ _ rfl (rinv_alloc (unhide X5) _) rfl x5.heap.size R rfl (by simp) (by omega) (unhide HRk) ?_; intro v' x6 hI6; have X6 := hide hI6; clear hI6)
        go_roundw
        case rel => exact ⟨j + 1, _, by omega, by go_num, unhide X6⟩
        case measure => simp [intOf]; omega
      · go_wp2_with fail
        refine (newWriter_any _).mono ?_
        rintro ev x1 ⟨rfl, hW1, hB1, hz1⟩
        have P1 := hide (WPost.refl hW1)
        have B1 := hide hB1
        have hz1' : wo.heap.size ≤ x1.heap.size := hB1.size
        clear hW1 hB1 hz1
        go_wp2_with fail
        refine (pick_c 0 9223372036854775807 (by decide) ⟨by decide, by decide⟩ 9223372036854775807 rfl _).mono ?_
        rintro ev wa ⟨rfl, rfl⟩
        have lA := pickP_lt 0 9223372036854775807 (by decide)
        generalize pickP 0 9223372036854775807 = A at *
        go_wp2_with fail
        refine (wnumK (unhide P1) (by omega) 8 (by decide) (by decide) (A : Int) (fits8 A (by omega)) (by simp) 8 rfl _ rfl).mono ?_
        rintro ev x2 ⟨rfl, hP2⟩
        have P2 := hide hP2
        clear hP2 P1
        go_wp2_with fail
        refine (pick_c 0 4294967296 (by decide) ⟨by decide, by decide⟩ 4294967296 rfl _).mono ?_
        rintro ev wb ⟨rfl, rfl⟩
        have lB := pickP_lt 0 4294967296 (by decide)
        generalize pickP 0 4294967296 = B at *
        go_wp2_with fail
        refine (wnumK (unhide P2) (by omega) 4 (by decide) (by decide) (B : Int) ((fits4 (B : Int)).2 (by omega)) (by simp [numB_len]) 4 rfl _ rfl).mono ?_
        rintro ev x3 ⟨rfl, hP3⟩
        have P3 := hide hP3
        clear hP3 P2
        go_wp2_with fail
        refine (wnumK (unhide P3) (by omega) 8 (by decide) (by decide) (j : Int) (fits8 j (by omega)) (by simp [numB_len]) 8 rfl (rcdL (A : Int) (B : Int) (j : Int)) (by simp [rcdL])).mono ?_
        rintro ev x4 ⟨rfl, hP4⟩
        have P4 := hide hP4
        clear hP4 P3
        go_wp2_with fail
        refine (doneK (unhide P4)).mono ?_
        rintro ev x5 ⟨rfl, hP5⟩
        have hRc : strOfNums (rcdL (A : Int) (B : Int) (j : Int)) = rcd (A : Int) (B : Int) (j : Int) := rfl
        rw [hRc]
        have X5 := hide (show RInv w j T v x5 from by
          obtain ⟨v1, g1, g2, g3⟩ := hP5
          have hO : Only (fun k => k = wo.heap.size) _ x5 := g2.mono (fun k hk q => by
            rcases q with q | q
            · exact q
            · cases q)
          have hb15 : Below wo.heap.size wo x5 := (unhide B1).trans (hO.below (unhide B1).size (fun k hk q => by have q : k = wo.heap.size := q; omega))
          exact ⟨(unhide XI).ok, ownsRow_belowR (unhide XI).row hb15, (unhide XI).bel.trans (hb15.mono (unhide XI).bel.size)⟩)
        have hRk : RcdOk (rcd (A : Int) (B : Int) (j : Int)) j := ⟨A, B, lA, lB, rfl⟩
        have hR20 : (rcd (A : Int) (B : Int) (j : Int)).size = 20 := rcd_size _ _ _
        generalize rcd (A : Int) (B : Int) (j : Int) = R at *
        have HRk := hide hRk
        clear hP5 P4 B1 XI hRc hRk
        go_wp2_with (at_builtin; refine wpList_appS _ rfl _ _ rfl (rinv_alloc (unhide X5) _) rfl x5.heap.size R rfl (by simp) (by omega) (unhide HRk) ?_; intro v' x6 hI6; have X6 := hide hI6; clear hI6)
        go_roundw
        case rel => exact ⟨j + 1, _, by omega, by go_num, unhide X6⟩
        case measure => simp [intOf]; omega
    · have hj' : j = 12 := by omega
      subst hj'
      obtain ⟨g, cp, hv⟩ := own_form (unhide XI).row (by decide)
      subst hv
      have hT20 : ∀ i, (T i).size = 20 := fun i => by obtain ⟨A, B, _, _, h⟩ := (unhide XI).ok i; rw [h]; exact rcd_size _ _ _
      have HT20 := hide hT20
      clear hT20 HC hj hj12
      go_wp2
      go_loopw [14, 15] (fun u i wr => ∃ m : Nat, m ≤ 12 ∧ i = .int .i64 (m : Int) ∧ u = .string (catT T m) ∧ RInv w 12 T (.slice (some ⟨g, 0, none⟩) 12 cp) wr) (fun _ i _ => 12 - (intOf i).toNat)
      case atStart => exact ⟨0, by omega, rfl, rfl, unhide XI⟩
      case round =>
        obtain ⟨m, hm, rfl, rfl, hI⟩ := hrel
        obtain ⟨wq, rfl⟩ : ∃ wq, wq = wr := ⟨_, rfl⟩
        have XQ := hide hI
        clear hI XI
        by_cases hm12 : m < 12
        · have cm : wq.cell? ⟨g, m, none⟩ = some (.string (T m)) := by
            rw [(unhide XQ).row.cellAt m (by omega)]
            unfold rowT
            rw [List.getElem?_map, List.getElem?_range hm12]
            rfl
          have hcs := catT_size T (unhide HT20) m
          have htm := unhide HT20 m
          have HCN := hide (show catT T m ++ T m = catT T (m + 1) from rfl)
          have y1 : ¬ 9223372036854775807 < (catT T m).size + (T m).size := by omega
          generalize catT T m = C1 at *
          generalize T m = Tm at *
          clear hcs htm
          go_wp2
          go_roundw
          case rel => exact ⟨m + 1, by omega, by go_num, by rw [unhide HCN], unhide XQ⟩
          case measure => simp [intOf]; omega
        · have hm' : m = 12 := by omega
          subst hm'
          have HX := hide (catT_ext T (unhide HT20) 12)
          have hbs : (catT T 12).size = 240 := catT_size T (unhide HT20) 12
          obtain ⟨body, hbody⟩ : ∃ b, catT T 12 = b := ⟨_, rfl⟩
          rw [hbody] at HX hbs ⊢
          have lK := pickP_lt k0 12 (by decide)
          have HPK := hide (fun W => pick_c k0 12 (by decide) hk0 12 rfl W)
          generalize pickP k0 12 = K at *
          clear hbody hm hm12 HT20 hk0
          go_wp2_with fail
          refine (unhide HPK _).mono ?_
          rintro ev wk ⟨rfl, rfl⟩
          clear HPK
          go_wp2_with fail
          refine (newWriter_any _).mono ?_
          rintro ev x1 ⟨rfl, hW1, hB1, hz1⟩
          have P1 := hide (WPost.refl hW1)
          have B1 := hide hB1
          have hz1' : wk.heap.size ≤ x1.heap.size := hB1.size
          have HB01 := hide ((unhide XQ).bel.trans ((unhide B1).mono (unhide XQ).bel.size))
          clear hW1 hB1 hz1
          go_wp2_with fail
          refine (first_any w pl ll lc z0 (unhide HF) _ (unhide HB01)).mono ?_
          rintro ev wf ⟨rfl, rfl⟩
          have hz0 := (unhide HF).1
          have lN := pickP_lt z0 9223372036854775807 (by decide)
          have HPN := hide (fun W => pick_c z0 9223372036854775807 (by decide) hz0 9223372036854775807 rfl W)
          generalize pickP z0 9223372036854775807 = n at *
          clear HB01 HF hz0
          go_wp2_with fail
          refine (unhide HPN _).mono ?_
          rintro ev wa ⟨rfl, rfl⟩
          clear HPN
          go_wp2_with fail
          refine (wnumK (unhide P1) (by omega) 8 (by decide) (by decide) (n : Int) (fits8 n (by omega)) (by simp) 8 rfl _ rfl).mono ?_
          rintro ev x2 ⟨rfl, hP2⟩
          have P2 := hide hP2
          clear hP2 P1
          go_wp2_with fail
          refine (wnumK (unhide P2) (by omega) 4 (by decide) (by decide) 77 ((fits4 77).2 (by decide)) (by simp [numB_len]) 4 rfl _ rfl).mono ?_
          rintro ev x3 ⟨rfl, hP3⟩
          have P3 := hide hP3
          clear hP3 P2
          go_wp2_with fail
          refine (wnumK (unhide P3) (by omega) 8 (by decide) (by decide) (K : Int) (fits8 K (by omega)) (by simp [numB_len]) 8 rfl (rcdL (n : Int) 77 (K : Int)) (by simp [rcdL])).mono ?_
          rintro ev x4 ⟨rfl, hP4⟩
          have P4 := hide hP4
          clear hP4 P3
          go_wp2_with fail
          refine (doneK (unhide P4)).mono ?_
          rintro ev x5 ⟨rfl, hP5⟩
          have hRc : strOfNums (rcdL (n : Int) 77 (K : Int)) = rcd (n : Int) 77 (K : Int) := rfl
          rw [hRc]
          have X5 := hide (show RInv w 12 T (.slice (some ⟨g, 0, none⟩) 12 cp) x5 from by
            obtain ⟨v1, g1, g2, g3⟩ := hP5
            have hO : Only (fun k => k = wk.heap.size) _ x5 := g2.mono (fun k hk q => by
              rcases q with q | q
              · exact q
              · cases q)
            have hb15 : Below wk.heap.size wk x5 := (unhide B1).trans (hO.below (unhide B1).size (fun k hk q => by have q : k = wk.heap.size := q; omega))
            exact ⟨(unhide XQ).ok, ownsRow_belowR (unhide XQ).row hb15, (unhide XQ).bel.trans (hb15.mono (unhide XQ).bel.size)⟩)
          have hR20 : (rcd (n : Int) 77 (K : Int)).size = 20 := rcd_size _ _ _
          obtain ⟨R, hR⟩ : ∃ R, rcd (n : Int) 77 (K : Int) = R := ⟨_, rfl⟩
          rw [hR] at hR20 ⊢
          have HR := hide hR
          clear hP5 P4 B1 XQ hRc hR
          have hin : K * 20 + 20 ≤ body.size := by omega
          have HSS := hide (fun W => setSlot_nat body 20 K R (by decide) (by omega) (by omega) hR20 W)
          obtain ⟨nx, hnx⟩ : ∃ x, body.extract 0 (K * 20) ++ R ++ body.extract (K * 20 + 20) body.size = x := ⟨_, rfl⟩
          have HN1 := hide (fun i (hi : i < 12) (hik : i ≠ K) => show nx.extract (i * 20) ((i + 1) * 20) = T i by
            rw [← hnx, set_beside body R (K * 20) 20 (i * 20) ((i + 1) * 20) hR20 hin (by omega) (by omega) (by omega)]
            exact unhide HX i hi)
          have HN2 := hide (show nx.extract (K * 20) ((K + 1) * 20) = R by
            rw [← hnx, show (K + 1) * 20 = K * 20 + 20 by omega]
            exact set_there body R (K * 20) 20 hR20 hin)
          have hns : nx.size = 240 := by
            rw [← hnx, ByteArray.size_append, ByteArray.size_append, hR20]
            have e1 : (body.extract 0 (K * 20)).size = K * 20 := by simp; omega
            have e2 : (body.extract (K * 20 + 20) body.size).size = body.size - (K * 20 + 20) := by simp
            omega
          rw [hnx] at HSS
          have hE : errM 4 (K : Int) nx.size = 0 := by rw [errM, if_neg (by simp [fits1, fits4]; omega), if_neg (by omega)]
          obtain ⟨hok, q1, q2, q3⟩ := make_parse 4 (K : Int) nx hE
          have HMK := hide (fun W => make_any rep_ok 4 (K : Int) nx W)
          rw [hE] at HMK
          have hss := (prOk_size _ hok).1
          have HPS := hide (fun W (hW : ETy W) => parse_yes (makeB 4 (K : Int) nx) (by omega) hok W hW)
          rw [q1, q2, q3] at HPS
          generalize makeB 4 (K : Int) nx = St at *
          clear hok q1 q2 q3 hss hnx hE HX
          go_wp2_with fail
          refine (unhide HSS _).mono ?_
          rintro ev x6 ⟨rfl, hB6⟩
          have X6 := hide (rinv_below (unhide X5) hB6)
          clear hB6 X5 HSS
          go_wp2_with fail
          refine (unhide HMK _).mono ?_
          rintro ev x7 ⟨rfl, hB7⟩
          have X7 := hide (rinv_below (unhide X6) hB7)
          clear hB7 X6 HMK
          go_wp2_with fail
          refine (unhide HPS _ ((unhide HG).below (unhide X7).bel (unhide HG).lt)).mono ?_
          rintro ev x8 ⟨rfl, hB8⟩
          have X8 := hide (rinv_below (unhide X7) hB8)
          clear hB8 X7 HPS
          have HSL := hide (fun W => slots_any nx 20 (by omega) ⟨by decide, by decide⟩ W)
          have hsl : slotsP nx.size 20 = 12 := by rw [hns]; decide
          rw [hsl] at HSL
          have hX8 := unhide X8
          have XP := hide (rinv_alloc hX8 (Obj.cells #[.int .i64 4, .int .i64 (K : Int), .string nx] 46))
          have PB0 := hide (Blk.new x8 46 #[.int .i64 4, .int .i64 (K : Int), .string nx])
          clear hX8 X8
          have c12 : ((12 : Nat) : Int) = 12 := rfl
          rw [c12] at HSL
          clear c12
          go_wp2_with fail
          refine (unhide HSL _).mono ?_
          rintro ev xs ⟨rfl, rfl⟩
          go_wp2
          go_loopw [26] (fun i wr => ∃ q : Nat, q ≤ 12 ∧ i = .int .i64 (q : Int) ∧ RInv w 12 T (.slice (some ⟨g, 0, none⟩) 12 cp) wr ∧ Blk wr x8.heap.size #[.int .i64 4, .int .i64 (K : Int), .string nx] 46) (fun i _ => 12 - (intOf i).toNat)
          case atStart => exact ⟨0, by omega, rfl, unhide XP, unhide PB0⟩
          case round =>
            obtain ⟨q, hq, rfl, hI, hPB⟩ := hrel
            obtain ⟨wz, rfl⟩ : ∃ wz, wz = wr := ⟨_, rfl⟩
            have XR := hide hI
            have PB := hide hPB
            have pb2 : wz.cell? ⟨x8.heap.size, 2, none⟩ = some (.string nx) := by rw [hPB.cell 2]; rfl
            clear hI hPB XP PB0 HSL hsl
            by_cases hq12 : q < 12
            · have HSQ := hide (fun W => slot_nat nx 20 q (by decide) (by omega) (by omega) W)
              by_cases hqK : q = K
              · subst hqK
                have HE1 := hide (show nx.extract (q * 20) ((q + 1) * 20) = strOfNums (numB (n : Int) 8 ++ (numB 77 4 ++ numB (q : Int) 8)) from by rw [unhide HN2, ← unhide HR]; rfl)
                have hs20 : (nx.extract (q * 20) ((q + 1) * 20)).size = 20 := by rw [unhide HN2]; exact hR20
                go_wp2_with fail
                refine (unhide HSQ _).mono ?_
                rintro ev y1 ⟨rfl, hD1⟩
                have Y1 := hide (rinv_below (unhide XR) hD1)
                have Q1 := hide ((unhide PB).below hD1 (unhide PB).lt)
                clear hD1 XR PB HSQ pb2
                go_wp2_with fail
                refine (newReader_any _ _).mono ?_
                rintro ev y2 ⟨rfl, hR2, hD2, hz2⟩
                rw [unhide HE1] at hR2
                have R2 := hide (show Rds y2 y1.heap.size ⟨strOfNums (numB (n : Int) 8 ++ (numB 77 4 ++ numB (q : Int) 8)), 0, 0⟩ from hR2)
                have D2 := hide hD2
                have G2 := hide ((unhide HG).below ((unhide Y1).bel.trans (hD2.mono (unhide Y1).bel.size)) (unhide HG).lt)
                clear hR2 hD2 hz2
                go_wp2_with fail
                refine (rnumK (unhide R2) (unhide G2) (by decide) (by decide) (fits8 n (by omega)) (by omega) (bytes_app (numB_bytes _ _) (numB_bytes _ _)) (by decide) (by simp [numB_len]) 8 rfl 8 rfl).mono ?_
                rintro ev y3 ⟨rfl, hR3, hO3⟩
                have R3 := hide hR3
                have G3 := hide (ety_onlyR (unhide G2) (unhide R2) hO3)
                have D3 := hide (show Below y1.heap.size y1 y3 from (unhide D2).trans (hO3.below (unhide D2).size (fun k hk q => by have q : k = y1.heap.size := q; omega)))
                clear hR3 hO3 R2 G2 D2
                go_wp2_with fail
                refine (rnumK (unhide R3) (unhide G3) (by decide) (by decide) ((fits4 77).2 (by decide)) (by decide) (numB_bytes _ _) (by decide) (by simp [numB_len]) 4 rfl 12 rfl).mono ?_
                rintro ev y4 ⟨rfl, hR4, hO4⟩
                have R4 := hide (show Rds y4 y1.heap.size ⟨strOfNums (numB (q : Int) 8 ++ []), 12, 0⟩ by rw [List.append_nil]; exact hR4)
                have G4 := hide (ety_onlyR (unhide G3) (unhide R3) hO4)
                have D4 := hide (show Below y1.heap.size y1 y4 from (unhide D3).trans (hO4.below (unhide D3).size (fun k hk q => by have q : k = y1.heap.size := q; omega)))
                clear hR4 hO4 R3 G3 D3
                go_wp2_with fail
                refine (rnumK (unhide R4) (unhide G4) (by decide) (by decide) (fits8 q (by omega)) (by omega) (fun j => by simp) (by decide) (by simp) 8 rfl 20 rfl).mono ?_
                rintro ev y5 ⟨rfl, hR5, hO5⟩
                have R5 := hide hR5
                have D5 := hide (show Below y1.heap.size y1 y5 from (unhide D4).trans (hO5.below (unhide D4).size (fun k hk q => by have q : k = y1.heap.size := q; omega)))
                clear hR5 hO5 R4 G4 D4
                go_wp2_with fail
                refine (rdone_any _ _ _ _ _ (unhide R5)).mono ?_
                rintro ev y6 ⟨rfl, hD6⟩
                have hde : doneE (strOfNums []) 0 = 0 := rfl
                rw [hde]
                have D6 := hide ((unhide D5).trans (hD6.mono (unhide D5).size))
                have Y6 := hide (rinv_below (unhide Y1) (unhide D6))
                have Q6 := hide ((unhide Q1).below (unhide D6) (unhide Q1).lt)
                clear hD6 D5 R5 D6 Y1 Q1 hde
                go_wp2
                go_roundw
                case rel => exact ⟨q + 1, by omega, by go_num, unhide Y6, unhide Q6⟩
                case measure => simp [intOf]; omega
              · obtain ⟨A, B, lA, lB, hTq⟩ := (unhide XR).ok q
                have HE1 := hide (show nx.extract (q * 20) ((q + 1) * 20) = strOfNums (numB (A : Int) 8 ++ (numB (B : Int) 4 ++ numB (q : Int) 8)) from by rw [unhide HN1 q hq12 hqK, hTq]; rfl)
                have hs20 : (nx.extract (q * 20) ((q + 1) * 20)).size = 20 := by rw [unhide HN1 q hq12 hqK, hTq]; exact rcd_size _ _ _
                go_wp2_with fail
                refine (unhide HSQ _).mono ?_
                rintro ev y1 ⟨rfl, hD1⟩
                have Y1 := hide (rinv_below (unhide XR) hD1)
                have Q1 := hide ((unhide PB).below hD1 (unhide PB).lt)
                clear hD1 XR PB HSQ pb2
                go_wp2_with fail
                refine (newReader_any _ _).mono ?_
                rintro ev y2 ⟨rfl, hR2, hD2, hz2⟩
                rw [unhide HE1] at hR2
                have R2 := hide (show Rds y2 y1.heap.size ⟨strOfNums (numB (A : Int) 8 ++ (numB (B : Int) 4 ++ numB (q : Int) 8)), 0, 0⟩ from hR2)
                have D2 := hide hD2
                have G2 := hide ((unhide HG).below ((unhide Y1).bel.trans (hD2.mono (unhide Y1).bel.size)) (unhide HG).lt)
                clear hR2 hD2 hz2
                go_wp2_with fail
                refine (rnumK (unhide R2) (unhide G2) (by decide) (by decide) (fits8 A (by omega)) (by omega) (bytes_app (numB_bytes _ _) (numB_bytes _ _)) (by decide) (by simp [numB_len]) 8 rfl 8 rfl).mono ?_
                rintro ev y3 ⟨rfl, hR3, hO3⟩
                have R3 := hide hR3
                have G3 := hide (ety_onlyR (unhide G2) (unhide R2) hO3)
                have D3 := hide (show Below y1.heap.size y1 y3 from (unhide D2).trans (hO3.below (unhide D2).size (fun k hk q => by have q : k = y1.heap.size := q; omega)))
                clear hR3 hO3 R2 G2 D2
                go_wp2_with fail
                refine (rnumK (unhide R3) (unhide G3) (by decide) (by decide) ((fits4 (B : Int)).2 (by omega)) (by omega) (numB_bytes _ _) (by decide) (by simp [numB_len]) 4 rfl 12 rfl).mono ?_
                rintro ev y4 ⟨rfl, hR4, hO4⟩
                have R4 := hide (show Rds y4 y1.heap.size ⟨strOfNums (numB (q : Int) 8 ++ []), 12, 0⟩ by rw [List.append_nil]; exact hR4)
                have G4 := hide (ety_onlyR (unhide G3) (unhide R3) hO4)
                have D4 := hide (show Below y1.heap.size y1 y4 from (unhide D3).trans (hO4.below (unhide D3).size (fun k hk q => by have q : k = y1.heap.size := q; omega)))
                clear hR4 hO4 R3 G3 D3
                go_wp2_with fail
                refine (rnumK (unhide R4) (unhide G4) (by decide) (by decide) (fits8 q (by omega)) (by omega) (fun j => by simp) (by decide) (by simp) 8 rfl 20 rfl).mono ?_
                rintro ev y5 ⟨rfl, hR5, hO5⟩
                have R5 := hide hR5
                have D5 := hide (show Below y1.heap.size y1 y5 from (unhide D4).trans (hO5.below (unhide D4).size (fun k hk q => by have q : k = y1.heap.size := q; omega)))
                clear hR5 hO5 R4 G4 D4
                go_wp2_with fail
                refine (rdone_any _ _ _ _ _ (unhide R5)).mono ?_
                rintro ev y6 ⟨rfl, hD6⟩
                have hde : doneE (strOfNums []) 0 = 0 := rfl
                rw [hde]
                have D6 := hide ((unhide D5).trans (hD6.mono (unhide D5).size))
                have Y6 := hide (rinv_below (unhide Y1) (unhide D6))
                have Q6 := hide ((unhide Q1).below (unhide D6) (unhide Q1).lt)
                have cq : y6.cell? ⟨g, q, none⟩ = some (.string (nx.extract (q * 20) ((q + 1) * 20))) := by
                  rw [(unhide Y6).row.cellAt q (by omega)]
                  unfold rowT
                  rw [List.getElem?_map, List.getElem?_range hq12, unhide HN1 q hq12 hqK]
                  rfl
                clear hD6 D5 R5 D6 Y1 Q1 hde
                have e1 : ((q : Int) == (K : Int)) = false := by simp; omega
                have e2 : ((q : Int) != (K : Int)) = true := by simp; omega
                generalize nx.extract (q * 20) ((q + 1) * 20) = sq at *
                go_wp2
                go_roundw
                case rel => exact ⟨q + 1, by omega, by go_num, unhide Y6, unhide Q6⟩
                case measure => simp [intOf]; omega
            · go_wp2
              go_ret
              exact ⟨rfl, (unhide XR).bel⟩
end Go.Proofs.YtkmgbicacbalfabDoor
