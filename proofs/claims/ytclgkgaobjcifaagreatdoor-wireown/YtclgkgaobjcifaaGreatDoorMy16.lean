import Derived.Test.YtclgkgaobjcifaaGreatDoorMy15
import Derived.Test.YtclgkgaobjcifaaGreatDoorMy11
import Derived.BigQuiet
import Derived.Test.YtclgkgaobjcifaaGreatDoorMy08
namespace Go.Proofs.YtclgkgaobjcifaaGreatDoor
open Go.RowKit
set_option maxRecDepth 100000
/-- bytes of a frame at a place, as numbers -/
def tkB (s : ByteArray) (i n : Nat) : List Int := ((nums s).drop i).take n
theorem tkB_len {s : ByteArray} {i n : Nat} (h : i + n ≤ s.size) : (tkB s i n).length = n := by
  simp only [tkB, List.length_take, List.length_drop, nums_len]
  omega
theorem beN1 (s : ByteArray) (i : Nat) (h : i < s.size) : beN (((nums s).drop i).take 1) = (nums s).getD i 0 := by
  have hl : i < (nums s).length := by rw [nums_len]; exact h
  have e : ((nums s).drop i).take 1 = [(nums s)[i]] := by
    rw [List.drop_eq_getElem_cons hl]
    rfl
  rw [e, List.getD_eq_getElem?_getD, List.getElem?_eq_getElem hl]
  show 256 * 0 + (nums s)[i] = (nums s)[i]
  omega
theorem own_lstN {w : World} {N c n : Nat} {p : Option Addr} {V : List Int} (hn : V.length = n) (h : w.ownsRow N 3 1 (.slice p n c) n (V.map (Value.int .i64))) : Lst w w.heap.size p V := by
  subst hn
  exact own_lst h
theorem own_baseW {w : World} {base base' : Nat} {e : TypeId} {k n : Nat} {v : Value} {xs : List Value} (h : w.ownsRow base e k v n xs) (hb : base' ≤ base) : w.ownsRow base' e k v n xs := by
  refine ⟨h.1, ?_⟩
  rcases h.2 with q | ⟨g, cap, cur, e1, e2, r⟩
  · exact .inl q
  · exact .inr ⟨g, cap, cur, e1, Nat.le_trans hb e2, r⟩
theorem tkB_succ {s : ByteArray} {i j : Nat} (h : i + j < s.size) : tkB s i (j + 1) = tkB s i j ++ [(nums s).getD (i + j) 0] := by
  have hl : j < ((nums s).drop i).length := by rw [List.length_drop, nums_len]; omega
  have hl2 : i + j < (nums s).length := by rw [nums_len]; exact h
  rw [tkB, tkB, List.take_add_one, List.getElem?_eq_getElem hl, List.getD_eq_getElem?_getD, List.getElem?_eq_getElem hl2]
  simp
set_option maxHeartbeats 2000000 in
theorem takeBytes_any (w : World) (b : Nat) (s : ByteArray) (i n : Nat) (hA : At w b s i) (hE : ETy w) (hs : s.size ≤ 150000000000000) (hk : i + n ≤ s.size) (h8 : n ≤ 8) (K : Int) (hK : K = (n : Int)) :
    Calls Tryz.prog 140 #[.pointer (some ⟨b, 0, none⟩), .int .i64 K] w fun e w' => ∃ p c, e = .returned (.slice p n c) ∧ w'.ownsRow w.heap.size 3 1 (.slice p n c) n ((tkB s i n).map (Value.int .i64)) ∧ At w' b s (i + n) ∧ Only (fun j => j = b) w w' := by
  subst hK
  obtain ⟨i0, hi, hx0, hx1, hx2⟩ := info_parts info3w
  have HIN := hide (And.intro hi (And.intro hx0 (And.intro hx1 hx2)))
  have hne := Rds.ne hA hE
  have HEW := hide (fun W (h : Only (fun j => j = b) w W) => hE.only h (fun q => hne q.symm))
  have hbw := hA.lt
  have HA := hide hA
  clear hi hx0 hx1 hx2 hA hE hne
  go_enter Tryz.func140, Tryz.ntmps140
  go_wp2
  go_loopw [5, 7] (fun u v wr => ∃ (j : Nat) (p : Option Addr) (c : Nat), j ≤ n ∧ v = .int .i64 (j : Int) ∧ u = .slice p j c ∧ wr.ownsRow w.heap.size 3 1 (.slice p j c) j ((tkB s i j).map (Value.int .i64)) ∧ At wr b s (i + j) ∧ Only (fun j => j = b) w wr) (fun _ v _ => n - (intOf v).toNat)
  case atStart => exact ⟨0, none, 0, Nat.zero_le _, rfl, rfl, World.ownsRow_nil _ _ _ _, unhide HA, Only.refl _ _⟩
  case round =>
    obtain ⟨j, p, c, hj, rfl, rfl, hr, hAj, hO⟩ := hrel
    clear HA
    by_cases q : j < n
    · have i1 : (j : Int) < (n : Int) := by omega
      have HN := hide (numA wr b s (i + j) 1 hAj (unhide HEW wr hO) hs (by decide) (by decide) (by omega))
      rw [beN1 s (i + j) (by omega)] at HN
      have HSU := hide (tkB_succ (s := s) (i := i) (j := j) (by omega))
      obtain ⟨X, hX⟩ : ∃ X, (nums s).getD (i + j) 0 = X := ⟨_, rfl⟩
      rw [hX] at HN HSU
      have HR := hide (And.intro hr hO)
      clear hr hAj hO hX
      go_wp2_with fail
      refine (unhide HN).mono ?_
      rintro e z ⟨rfl, hAz, hOz⟩
      have hs1 := (unhide HR).2.size
      have HRZ := hide (show (z.alloc (.cells #[.int .i64 X] 3)).ownsRow w.heap.size 3 1 (.slice p j c) j ((tkB s i j).map (Value.int .i64)) from own_onlyW (own_onlyW (unhide HR).1 hOz (fun q hq e => by have := ((unhide HR).1.lt q hq).1; omega)) (Only.of_below (P := fun _ => False) (show Below z.heap.size z (z.alloc (.cells #[.int .i64 X] 3)) from (Below.refl _ _).alloc (Nat.le_refl _) _)) (fun _ _ q => q))
      have HZ := hide (And.intro hAz ((unhide HR).2.trans hOz (fun _ _ q => q)))
      have HLE := hide (show w.heap.size ≤ (z.alloc (.cells #[.int .i64 X] 3)).heap.size from by rw [World.size_alloc]; have := hOz.size; omega)
      clear hAz hOz HN HR
      go_wp2_with (refine wpList_append_lies _ rfl (.tmp 9) (.tmp 12) 22 rfl w.heap.size 3 i0 (.int .i64 0) 1 8 Tryz.underlying22 (unhide HIN).1 (unhide HIN).2.1 (unhide HIN).2.2.1 (unhide HIN).2.2.2 rfl (by decide) _ j ((tkB s i j).map (Value.int .i64)) rfl (unhide HRZ) ⟨z.heap.size, 0, none⟩ 1 1 [.int .i64 X] rfl rfl (fun q u hu => news_oneW z 3 _ q u hu) (by simp [Value.oneCell']) (by omega) (by unfold maxLen; omega) (by omega) (unhide HLE) _ rfl ?_)
      intro g1 c1 y9 ho9 hg9 hor9 hlt9
      have hO9 := grown_onlyW hg9
      have HF := hide (show y9.ownsRow w.heap.size 3 1 (.slice (some ⟨g1, 0, none⟩) (j + 1) c1) (j + 1) ((tkB s i (j + 1)).map (Value.int .i64)) ∧ At y9 b s (i + (j + 1)) ∧ Only (fun j => j = b) w y9 from by
        refine ⟨by rw [unhide HSU, List.map_append]; exact ho9, ?_, ?_⟩
        · exact ((unhide HZ).1.alloc _).only hO9 (fun e => by have := ((unhide HRZ).lt b e).1; omega)
        · exact ((unhide HZ).2.alloc _).trans hO9 (fun q hq e => by have := ((unhide HRZ).lt q e).1; omega))
      clear ho9 hg9 hor9 hlt9 hO9 HRZ HLE HZ
      go_wp2
      go_roundw
      case rel => exact ⟨j + 1, _, c1, by omega, by go_num, rfl, unhide HF⟩
      case measure => simp [intOf]; omega
    · obtain rfl : j = n := by omega
      have i1 : ¬ ((j : Int) < (j : Int)) := by omega
      have HR := hide (And.intro hr (And.intro hAj hO))
      clear hr hAj hO q
      go_wp2
      go_ret
      exact ⟨p, c, rfl, unhide HR⟩
theorem built_prt : Tryz.prog.built 103 [] = some Prt.nil.cs := by kernel_rfl
/-- what places.take answers -/
def PlQ (N b : Nat) (s : ByteArray) (i : Nat) (w : World) (e : Ending) (w' : World) : Prop := ∃ p c, e = .returned (.tuple #[.agg (⟨0, ⟨#[]⟩, p, 8, c⟩ : Prt).cs, .bool true]) ∧ w'.ownsRow N 3 1 (.slice p 8 c) 8 ((tkB s i 8).map (Value.int .i64)) ∧ At w' b s (i + 8) ∧ Only (fun j => j = b) w w'
set_option maxHeartbeats 2000000 in
theorem plTake_any (w : World) (b : Nat) (s : ByteArray) (i : Nat) (hA : At w b s i) (hE : ETy w) (hs : s.size ≤ 150000000000000) (hk : i + 8 ≤ s.size) :
    Calls Tryz.prog 139 #[.agg #[], .pointer (some ⟨b, 0, none⟩)] w fun e w' => PlQ w.heap.size b s i w e w' := by
  obtain ⟨B1, B2, hbl, hs2⟩ := two_boxes w #[] #[.int .i64 0, .string ⟨#[]⟩, .slice none 0 0] 135 103
  obtain ⟨g, hgg⟩ : ∃ g, w.heap.size = g := ⟨_, rfl⟩
  obtain ⟨y, hy⟩ : ∃ Z, (w.alloc (.cells #[] 135)).alloc (.cells #[.int .i64 0, .string ⟨#[]⟩, .slice none 0 0] 103) = Z := ⟨_, rfl⟩
  rw [hgg] at B1 B2 hs2 hbl ⊢
  rw [hy] at B1 B2 hbl hs2
  have hbg : b < g := by rw [← hgg]; exact hA.lt
  have HT := hide (takeBytes_any y b s i 8 (hA.below hbl hbg) (hE.below hbl (by rw [← hgg]; exact hE.lt)) hs hk (by decide) 8 rfl)
  rw [hs2] at HT
  have HY := hide (And.intro B2 hbl)
  clear B1 B2 hbl hs2 hA hE
  go_enter Tryz.func139, Tryz.ntmps139
  go_wp2_with fail
  refine (unhide HT).mono ?_
  rintro e x ⟨p, c, rfl, hr, hAx, hOx⟩
  obtain ⟨B2, hbl⟩ := unhide HY
  have C2 := B2.only hOx (by omega)
  have HO := hide (Prt.one (⟨0, ⟨#[]⟩, p, 8, c⟩ : Prt))
  have BT := blk_setRow (cells := #[.int .i64 0, .string ⟨#[]⟩, .slice p 8 c]) C2
  have HL := hide (iload_blk 103 _ BT Tryz.underlying103 rfl size_prt)
  have HZ := hide C2
  have oS : Only (fun j => j = g + 1) x (x.setRow (g + 1) #[.int .i64 0, .string ⟨#[]⟩, .slice p 8 c]) := only_setRow (P := fun j => j = g + 1) (g + 1) _ rfl
  have HF := hide (show (x.setRow (g + 1) #[.int .i64 0, .string ⟨#[]⟩, .slice p 8 c]).ownsRow g 3 1 (.slice p 8 c) 8 ((tkB s i 8).map (Value.int .i64)) ∧ At (x.setRow (g + 1) #[.int .i64 0, .string ⟨#[]⟩, .slice p 8 c]) b s (i + 8) ∧ Only (fun j => j = b) w (x.setRow (g + 1) #[.int .i64 0, .string ⟨#[]⟩, .slice p 8 c]) from
    ⟨own_onlyW (own_baseW hr (by omega)) oS (fun q hq e => by have := (hr.lt q hq).1; omega), hAx.only oS (by omega), ((Only.of_below (P := fun j => j = b) (by rw [hgg]; exact hbl)).trans hOx (fun _ _ q => q)).trans oS (fun k hk q => by omega)⟩)
  clear B2 hbl C2 BT hAx hOx hy hr oS HT HY
  go_wp2_with (refine wpList_store_row rfl 103 (.tmp 4) (.tmp 8) rfl (g + 1) #[.int .i64 0, .string ⟨#[]⟩, .slice p 8 c] rfl rfl 103 #[.int .i64 0, .string ⟨#[]⟩, .slice none 0 0] (unhide HZ) size_prt rfl (unhide HO) ?_)
  (try simp only [Exit.inBlock, Exit.then])
  refine bodyPost_ret (v := .tuple #[.agg #[.int .i64 0, .string ⟨#[]⟩, .slice p 8 c], .bool true]) (results_cell2 (p := 4) (q := 5) (ty := 103) rfl _ _ _ ⟨g + 1, 0, none⟩ rfl _ (unhide HL)) rfl ?_
  exact ⟨p, c, rfl, unhide HF⟩
/-- may what stands at a place be a list of volumes? -/
def vtN (s : ByteArray) (i : Nat) : Nat := ((nums s).getD i 0).toNat
def vtB (s : ByteArray) (i : Nat) : Bool := decide (vtN s i ≤ 8) && (((s.extract (i + 1 + vtN s i) (i + 9)).toList == (strOfNums (List.replicate (8 - vtN s i) 0)).toList) && areV (tkB s (i + 1) (vtN s i)))
/-- what volumes.take answers -/
def VoQ (N b : Nat) (s : ByteArray) (i : Nat) (w : World) (e : Ending) (w' : World) : Prop := ∃ P : Prt, e = .returned (.tuple #[.agg P.cs, .bool (vtB s i)]) ∧ Only (fun j => j = b) w w' ∧ (vtB s i = true → ∃ p c, P = ⟨0, ⟨#[]⟩, p, vtN s i, c⟩ ∧ w'.ownsRow N 3 1 (.slice p (vtN s i) c) (vtN s i) ((tkB s (i + 1) (vtN s i)).map (Value.int .i64)) ∧ At w' b s (i + 9))
set_option maxHeartbeats 4000000 in
theorem voTake_any (w : World) (b : Nat) (s : ByteArray) (i : Nat) (hA : At w b s i) (hE : ETy w) (hs : s.size ≤ 150000000000000) (hk : i + 9 ≤ s.size) :
    Calls Tryz.prog 143 #[.agg #[], .pointer (some ⟨b, 0, none⟩)] w fun e w' => VoQ w.heap.size b s i w e w' := by
  obtain ⟨B1, B2, hbl, hs2⟩ := two_boxes w #[] #[.int .i64 0, .string ⟨#[]⟩, .slice none 0 0] 136 103
  obtain ⟨g, hgg⟩ : ∃ g, w.heap.size = g := ⟨_, rfl⟩
  obtain ⟨y, hy⟩ : ∃ Z, (w.alloc (.cells #[] 136)).alloc (.cells #[.int .i64 0, .string ⟨#[]⟩, .slice none 0 0] 103) = Z := ⟨_, rfl⟩
  rw [hgg] at B1 B2 hs2 hbl ⊢
  rw [hy] at B1 B2 hbl hs2
  have hbg : b < g := by rw [← hgg]; exact hA.lt
  have hne := Rds.ne hA hE
  have HEW := hide (fun W (h : Only (fun j => j = b) w W) => hE.only h (fun q => hne q.symm))
  have hOy : Only (fun j => j = b) w y := Only.of_below (by rw [hgg]; exact hbl)
  have HN := hide (numA y b s i 1 (hA.below hbl hbg) (unhide HEW y hOy) hs (by decide) (by decide) (by omega))
  rw [beN1 s i (by omega)] at HN
  have hbb := nums_bytes s i
  obtain ⟨n, hn⟩ : ∃ n, vtN s i = n := ⟨_, rfl⟩
  have hnI : (nums s).getD i 0 = (n : Int) := by rw [← hn, vtN]; omega
  rw [hnI] at HN
  have HNV := hide hn
  have HY := hide (And.intro B2 hOy)
  clear B1 B2 hbl hA hE hne hnI hn hbb
  go_enter Tryz.func143, Tryz.ntmps143
  go_wp2_with fail
  refine (unhide HN).mono ?_
  rintro e x ⟨rfl, hAx, hOx⟩
  have C2 := (unhide HY).1.only hOx (by omega)
  have hO := (unhide HY).2.trans hOx (fun _ _ q => q)
  have hxs : g + 2 ≤ x.heap.size := by have := hOx.size; omega
  clear HN HY hOx
  by_cases h8 : n ≤ 8
  · have q1 : ¬ ((n : Int) > 8) := by omega
    have HT := hide (takeBytes_any x b s (i + 1) n hAx (unhide HEW x hO) hs (by omega) h8 (n : Int) rfl)
    have HX := hide (And.intro C2 hO)
    clear hy C2 hO hAx
    go_wp2_with fail
    refine (unhide HT).mono ?_
    rintro e x1 ⟨p, c, rfl, hr, hA1, hO1⟩
    obtain ⟨h, hh⟩ : ∃ h, x1.heap.size = h := ⟨_, rfl⟩
    obtain ⟨xa, hxa⟩ : ∃ X, x1.alloc (.cells #[.int .i64 0, .string ⟨#[]⟩, .slice none 0 0] 103) = X := ⟨_, rfl⟩
    obtain ⟨x2, hx2⟩ : ∃ X, xa.setRow h #[.int .i64 0, .string ⟨#[]⟩, .slice p n c] = X := ⟨_, rfl⟩
    have hs1 := hO1.size
    have HBA := hide (show Blk xa h #[.int .i64 0, .string ⟨#[]⟩, .slice none 0 0] 103 from by rw [← hxa, ← hh]; exact Blk.new _ _ _)
    have hba : Below h x1 xa := by rw [← hxa, ← hh]; exact (Below.refl _ _).alloc (Nat.le_refl _) _
    have oR : Only (fun j => j = h) xa x2 := by rw [← hx2]; exact only_setRow (P := fun j => j = h) h _ rfl
    have hba' : Below x1.heap.size x1 xa := by rw [hh]; exact hba
    have HX2 := hide (show Blk x2 h #[.int .i64 0, .string ⟨#[]⟩, .slice p n c] 103 ∧ Blk x2 (g + 1) #[.int .i64 0, .string ⟨#[]⟩, .slice none 0 0] 103 ∧ At x2 b s (i + 1 + n) ∧ x2.ownsRow (g + 2) 3 1 (.slice p n c) n ((tkB s (i + 1) n).map (Value.int .i64)) ∧ Only (fun j => j = b) w x2 from
      ⟨by rw [← hx2]; exact blk_setRow (unhide HBA), (((unhide HX).1.only hO1 (by omega)).below hba (by omega)).only oR (by omega), (hA1.below hba (by have := hA1.lt; omega)).only oR (by have := hA1.lt; omega), own_onlyW (own_onlyW (own_baseW hr (by omega)) (Only.of_below (P := fun _ => False) hba') (fun _ _ q => q)) oR (fun q hq e => by have := (hr.lt q hq).2; omega), (((unhide HX).2.trans hO1 (fun _ _ q => q)).trans (Only.of_below (P := fun _ => False) hba') (fun _ _ e => e.elim)).trans oR (fun k hk q => by omega)⟩)
    have HOP := hide (Prt.one (⟨0, ⟨#[]⟩, p, n, c⟩ : Prt))
    obtain ⟨d, hd⟩ : ∃ d, 8 - n = d := ⟨_, rfl⟩
    have hd8 : n + d = 8 := by omega
    have w1 : IntKind.i64.wrap (8 - (n : Int)) = (d : Int) := by rw [wrapI_eq _ (by omega) (by omega)]; omega
    have w2 : IntKind.i64.wrap (1 * (d : Int)) = (d : Int) := by rw [wrapI_eq _ (by omega) (by omega)]; omega
    have HLN := hide (tkB_len (s := s) (i := i + 1) (n := n) (by omega))
    have HNO := hide (fun W => noughts_any d (by omega) W)
    obtain ⟨T1, hT1⟩ : ∃ T, s.extract (i + 1 + n) (i + 1 + n + d) = T := ⟨_, rfl⟩
    obtain ⟨Z1, hZ1⟩ : ∃ Z, strOfNums (List.replicate d (0 : Int)) = Z := ⟨_, rfl⟩
    obtain ⟨AV, hAV⟩ : ∃ A, areV (tkB s (i + 1) n) = A := ⟨_, rfl⟩
    rw [hZ1] at HNO
    have HT1 := hide hT1
    have HI9 := hide (show i + 1 + n + d = i + 9 by omega)
    have HAE := hide hAV
    have HVB := hide (show vtB s i = ((T1.toList == Z1.toList) && AV) from by
      rw [vtB, unhide HNV, decide_eq_true h8, Bool.true_and, ← hT1, ← hZ1, ← hAV, hd, show i + 1 + n + d = i + 9 by omega])
    have hhg : g + 2 ≤ h := by omega
    clear hr hA1 hO1 hba oR hba' hT1 hZ1 hAV hd HX HT hs1
    go_wp2_with (refine wpList_store_row rfl 103 (.tmp 7) (.tmp 17) rfl h #[.int .i64 0, .string ⟨#[]⟩, .slice p n c] rfl rfl 103 #[.int .i64 0, .string ⟨#[]⟩, .slice none 0 0] (unhide HBA) size_prt rfl (unhide HOP) ?_)
    clear hxa hx2 HBA w1 w2
    cases hD : (T1.toList == Z1.toList) with
    | true =>
      rw [hD, Bool.true_and] at HVB
      refine wp_region_held_drew (S := fun x => x.cell? ⟨h, 0, none⟩ = some (.int .i64 0) ∧ x.cell? ⟨h, 1, none⟩ = some (.string ⟨#[]⟩) ∧ x.cell? ⟨h, 2, none⟩ = some (.slice p n c)) (by kernel_rfl) ⟨by rw [World.cell?_drew]; exact (unhide HX2).1.cell 0, by rw [World.cell?_drew]; exact (unhide HX2).1.cell 1, by rw [World.cell?_drew]; exact (unhide HX2).1.cell 2⟩ ?_
      intro hS
      obtain ⟨xd, hxd⟩ : ∃ X, x2.drew = X := ⟨_, rfl⟩
      rw [hxd] at hS ⊢
      have HX3 := hide (show Blk xd h #[.int .i64 0, .string ⟨#[]⟩, .slice p n c] 103 ∧ Blk xd (g + 1) #[.int .i64 0, .string ⟨#[]⟩, .slice none 0 0] 103 ∧ At xd b s (i + 1 + n) ∧ xd.ownsRow (g + 2) 3 1 (.slice p n c) n ((tkB s (i + 1) n).map (Value.int .i64)) ∧ Only (fun j => j = b) w xd from by
        rw [← hxd]
        obtain ⟨u1, u2, u3, u4, u5⟩ := unhide HX2
        exact ⟨u1, u2, u3, u4.drew, u5.drew⟩)
      have HRW := hide (rawA xd b s (i + 1 + n) d (unhide HX3).2.2.1 (unhide HEW xd (unhide HX3).2.2.2.2) hs (by omega))
      rw [unhide HT1, unhide HI9] at HRW
      clear hxd HX2
      refine wpAnyH_takeD 0 (some 21) (.agg #[.int .i64 0, .string ⟨#[]⟩, .slice p n c]) rfl rfl (by kernel_rfl) (by kernel_rfl) (by kernel_rfl) (fun _ _ _ h => h) (Or.inl ⟨by rfl, fun w hSw => by obtain ⟨s0, s1, s2⟩ := hSw; go_simp⟩) hS ?_
      simp only [Act.put, List.setIfInBounds_toArray, List.set_cons_zero, List.set_cons_succ]
      refine wpAnyH_takeD 1 (some 22) (.pointer (some ⟨b, 0, none⟩)) rfl rfl (by kernel_rfl) (by kernel_rfl) (by kernel_rfl) (fun _ _ _ h => h) (Or.inl ⟨by rfl, fun w hSw => by obtain ⟨s0, s1, s2⟩ := hSw; go_simp⟩) hS ?_
      simp only [Act.put, List.setIfInBounds_toArray, List.set_cons_zero, List.set_cons_succ]
      refine wpAnyH_takeD 2 (some 23) (.int .i64 (d : Int)) rfl rfl (by kernel_rfl) (by kernel_rfl) (by kernel_rfl) (fun _ _ _ h => h) (Or.inl ⟨by rfl, fun w hSw => by obtain ⟨s0, s1, s2⟩ := hSw; go_simp⟩) hS ?_
      simp only [Act.put, List.setIfInBounds_toArray, List.set_cons_zero, List.set_cons_succ]
      refine wpAnyH_takeD 4 (some 25) (.int .i64 (d : Int)) rfl rfl (by kernel_rfl) (by kernel_rfl) (by kernel_rfl) (fun _ _ _ h => h) (Or.inl ⟨by rfl, fun w hSw => by obtain ⟨s0, s1, s2⟩ := hSw; go_simp⟩) hS ?_
      simp only [Act.put, List.setIfInBounds_toArray, List.set_cons_zero, List.set_cons_succ]
      refine wpAnyH_ready (rs := [3]) (by kernel_rfl) (by simp) ?_
      refine AllReadyH.cons rfl (fun K hK => ?_) AllReadyH.nil
      simp only [List.getElem_toArray, List.getElem_cons_succ, List.getElem_cons_zero]
      go_simp
      refine (unhide HRW).mono ?_
      rintro e z1 ⟨rfl, hA1, hO1⟩
      have hB1 := (unhide HX3).1.only hO1 (by omega)
      have hG1 := (unhide HX3).2.1.only hO1 (by omega)
      have HZ1 := hide (And.intro hB1 (And.intro hG1 (And.intro hA1 (And.intro (own_onlyW (unhide HX3).2.2.2.1 hO1 (fun q hq e => by have := ((unhide HX3).2.2.2.1.lt q hq).1; omega)) ((unhide HX3).2.2.2.2.trans hO1 (fun _ _ q => q))))))
      clear hB1 hG1 hA1 hO1 HRW
      refine hK.out _ _ ⟨(unhide HZ1).1.cell 0, (unhide HZ1).1.cell 1, (unhide HZ1).1.cell 2⟩ (fun hS => ?_)
      clear hK K
      refine wpAnyH_ready (rs := [5]) (by kernel_rfl) (by simp) ?_
      refine AllReadyH.cons rfl (fun K hK => ?_) AllReadyH.nil
      simp only [List.getElem_toArray, List.getElem_cons_succ, List.getElem_cons_zero]
      go_simp
      refine (unhide HNO z1).mono ?_
      rintro e z2 ⟨rfl, hb2⟩
      have HZ2 := hide (And.intro ((unhide HZ1).1.below hb2 (unhide HZ1).1.lt) (And.intro ((unhide HZ1).2.1.below hb2 (unhide HZ1).2.1.lt) (And.intro ((unhide HZ1).2.2.1.below hb2 (unhide HZ1).2.2.1.lt) (And.intro (own_onlyW (unhide HZ1).2.2.2.1 (Only.of_below (P := fun _ => False) hb2) (fun _ _ q => q)) ((unhide HZ1).2.2.2.2.trans (Only.of_below (P := fun _ => False) hb2) (fun _ _ e => e.elim))))))
      clear hb2 HZ1
      refine hK.out _ _ ⟨(unhide HZ2).1.cell 0, (unhide HZ2).1.cell 1, (unhide HZ2).1.cell 2⟩ (fun hS => ?_)
      clear hK K
      refine wpAnyH_takeD 6 (some 27) (.bool true) rfl rfl (by kernel_rfl) (by kernel_rfl) (by kernel_rfl) (fun _ _ _ h => h) (Or.inl ⟨by rfl, fun w hSw => by obtain ⟨s0, s1, s2⟩ := hSw; go_simp⟩) hS ?_
      simp only [Act.put, List.setIfInBounds_toArray, List.set_cons_zero, List.set_cons_succ]
      refine wpAnyH_takeD 7 (some 28) (.bool true) rfl rfl (by kernel_rfl) (by kernel_rfl) (by kernel_rfl) (fun _ _ _ h => h) (Or.inl ⟨by rfl, fun w hSw => by obtain ⟨s0, s1, s2⟩ := hSw; go_simp⟩) hS ?_
      simp only [Act.put, List.setIfInBounds_toArray, List.set_cons_zero, List.set_cons_succ]
      refine wpAnyH_takeD 8 (some 29) (.pointer (some ⟨h, 2, none⟩)) rfl rfl (by kernel_rfl) (by kernel_rfl) (by kernel_rfl) (fun _ _ _ h => h) (Or.inl ⟨by rfl, fun w hSw => by obtain ⟨s0, s1, s2⟩ := hSw; go_simp⟩) hS ?_
      simp only [Act.put, List.setIfInBounds_toArray, List.set_cons_zero, List.set_cons_succ]
      refine wpAnyH_takeD 9 (some 30) (.slice p n c) rfl rfl (by kernel_rfl) (by kernel_rfl) (by kernel_rfl) (fun _ _ _ h => h) (Or.inl ⟨by rfl, fun w hSw => by obtain ⟨s0, s1, s2⟩ := hSw; go_simp⟩) hS ?_
      simp only [Act.put, List.setIfInBounds_toArray, List.set_cons_zero, List.set_cons_succ]
      refine wpAnyH_ready (rs := [10]) (by kernel_rfl) (by simp) ?_
      refine AllReadyH.cons rfl (fun K hK => ?_) AllReadyH.nil
      simp only [List.getElem_toArray, List.getElem_cons_succ, List.getElem_cons_zero]
      go_simp
      have HAV := hide (areVolumes_any z2 z2.heap.size p c n (tkB s (i + 1) n) (unhide HLN) (own_lstN (unhide HLN) (unhide HZ2).2.2.2.1) (Nat.le_refl _) h8)
      rw [unhide HAE] at HAV
      refine (unhide HAV).mono ?_
      rintro e z3 ⟨rfl, hb3⟩
      have HZ3 := hide (And.intro ((unhide HZ2).1.below hb3 (unhide HZ2).1.lt) (And.intro ((unhide HZ2).2.1.below hb3 (unhide HZ2).2.1.lt) (And.intro ((unhide HZ2).2.2.1.below hb3 (unhide HZ2).2.2.1.lt) (And.intro (own_onlyW (unhide HZ2).2.2.2.1 (Only.of_below (P := fun _ => False) hb3) (fun _ _ q => q)) ((unhide HZ2).2.2.2.2.trans (Only.of_below (P := fun _ => False) hb3) (fun _ _ e => e.elim))))))
      clear hb3 HZ2 HAV
      refine hK.out _ _ ⟨(unhide HZ3).1.cell 0, (unhide HZ3).1.cell 1, (unhide HZ3).1.cell 2⟩ (fun hS => ?_)
      clear hK K
      refine wpAnyH_takeD 11 (some 32) (.bool AV) rfl rfl (by kernel_rfl) (by kernel_rfl) (by kernel_rfl) (fun _ _ _ h => h) (Or.inl ⟨by rfl, fun w hSw => by obtain ⟨s0, s1, s2⟩ := hSw; go_simp⟩) hS ?_
      simp only [Act.put, List.setIfInBounds_toArray, List.set_cons_zero, List.set_cons_succ]
      obtain ⟨z5, hz5⟩ : ∃ Z, ((z3.setCell ⟨g + 1, 0, none⟩ (.int .i64 0)).setCell ⟨g + 1, 1, none⟩ (.string ⟨#[]⟩)).setCell ⟨g + 1, 2, none⟩ (.slice p n c) = Z := ⟨_, rfl⟩
      have e0 : z3.cell? ⟨g + 1, 0, none⟩ = some (.int .i64 0) := (unhide HZ3).2.1.cell 0
      have e1 : z3.cell? ⟨g + 1, 1, none⟩ = some (.string ⟨#[]⟩) := (unhide HZ3).2.1.cell 1
      have e2 : z3.cell? ⟨g + 1, 2, none⟩ = some (.slice none 0 0) := (unhide HZ3).2.1.cell 2
      have f0 : z3.frozen? ⟨g + 1, 0, none⟩ = false := (unhide HZ3).2.1.frozen 0
      have f1 : z3.frozen? ⟨g + 1, 1, none⟩ = false := (unhide HZ3).2.1.frozen 1
      have f2 : z3.frozen? ⟨g + 1, 2, none⟩ = false := (unhide HZ3).2.1.frozen 2
      have o1 := (Only.refl (fun j => j = g + 1) z3).setCell ⟨g + 1, 0, none⟩ (.int .i64 0) (fun _ => rfl)
      have o2 := o1.setCell ⟨g + 1, 1, none⟩ (.string ⟨#[]⟩) (fun _ => rfl)
      have oS := o2.setCell ⟨g + 1, 2, none⟩ (.slice p n c) (fun _ => rfl)
      rw [hz5] at oS
      clear o1 o2
      have HZ5 := hide (show Blk z5 h #[.int .i64 0, .string ⟨#[]⟩, .slice p n c] 103 ∧ Blk z5 (g + 1) #[.int .i64 0, .string ⟨#[]⟩, .slice p n c] 103 ∧ At z5 b s (i + 9) ∧ z5.ownsRow g 3 1 (.slice p n c) n ((tkB s (i + 1) n).map (Value.int .i64)) ∧ Only (fun j => j = b) w z5 from
        ⟨(unhide HZ3).1.only oS (by omega), by rw [← hz5]; exact ((((unhide HZ3).2.1.set 0 (.int .i64 0)).set 1 (.string ⟨#[]⟩)).set 2 (.slice p n c)), (unhide HZ3).2.2.1.only oS (by omega), own_onlyW (own_baseW (unhide HZ3).2.2.2.1 (by omega)) oS (fun q hq e => by have := ((unhide HZ3).2.2.2.1.lt q hq).1; omega), (unhide HZ3).2.2.2.2.trans oS (fun k hk q => by omega)⟩)
      have HE5 := hide hz5
      clear oS
      refine wpAnyH_ready (rs := [12]) (by kernel_rfl) (by simp) ?_
      refine AllReadyH.cons rfl (fun K hK => ?_) AllReadyH.nil
      simp only [List.getElem_toArray, List.getElem_cons_succ, List.getElem_cons_zero]
      go_simp
      (try rw [unhide HE5])
      refine hK.out _ _ ⟨(unhide HZ5).1.cell 0, (unhide HZ5).1.cell 1, (unhide HZ5).1.cell 2⟩ (fun hS => ?_)
      clear hK K
      refine wpAnyH_takeD 13 (some 5) (.bool AV) rfl rfl (by kernel_rfl) (by kernel_rfl) (by kernel_rfl) (fun _ _ _ h => h) (Or.inl ⟨by rfl, fun w hSw => by obtain ⟨s0, s1, s2⟩ := hSw; go_simp⟩) hS ?_
      simp only [Act.put, List.setIfInBounds_toArray, List.set_cons_zero, List.set_cons_succ]
      refine wpAnyH_done (by kernel_rfl) ?_ _
      clear hS
      have HL := hide (iload_blk 103 _ (unhide HZ5).2.1 Tryz.underlying103 rfl size_prt)
      go_wp2
      (try simp only [Exit.inBlock, Exit.then])
      refine bodyPost_ret (v := .tuple #[.agg #[.int .i64 0, .string ⟨#[]⟩, .slice p n c], .bool AV]) (results_cell2 (p := 4) (q := 5) (ty := 103) rfl _ _ _ ⟨g + 1, 0, none⟩ rfl _ (unhide HL)) rfl ?_
      refine ⟨⟨0, ⟨#[]⟩, p, n, c⟩, by rw [unhide HVB]; rfl, (unhide HZ5).2.2.2.2, fun _ => ⟨p, c, by rw [unhide HNV], by rw [unhide HNV]; exact (unhide HZ5).2.2.2.1, (unhide HZ5).2.2.1⟩⟩
    | false =>
      rw [hD, Bool.false_and] at HVB
      refine wp_region_held_drew (S := fun x => x.cell? ⟨h, 0, none⟩ = some (.int .i64 0) ∧ x.cell? ⟨h, 1, none⟩ = some (.string ⟨#[]⟩) ∧ x.cell? ⟨h, 2, none⟩ = some (.slice p n c)) (by kernel_rfl) ⟨by rw [World.cell?_drew]; exact (unhide HX2).1.cell 0, by rw [World.cell?_drew]; exact (unhide HX2).1.cell 1, by rw [World.cell?_drew]; exact (unhide HX2).1.cell 2⟩ ?_
      intro hS
      obtain ⟨xd, hxd⟩ : ∃ X, x2.drew = X := ⟨_, rfl⟩
      rw [hxd] at hS ⊢
      have HX3 := hide (show Blk xd h #[.int .i64 0, .string ⟨#[]⟩, .slice p n c] 103 ∧ Blk xd (g + 1) #[.int .i64 0, .string ⟨#[]⟩, .slice none 0 0] 103 ∧ At xd b s (i + 1 + n) ∧ xd.ownsRow (g + 2) 3 1 (.slice p n c) n ((tkB s (i + 1) n).map (Value.int .i64)) ∧ Only (fun j => j = b) w xd from by
        rw [← hxd]
        obtain ⟨u1, u2, u3, u4, u5⟩ := unhide HX2
        exact ⟨u1, u2, u3, u4.drew, u5.drew⟩)
      have HRW := hide (rawA xd b s (i + 1 + n) d (unhide HX3).2.2.1 (unhide HEW xd (unhide HX3).2.2.2.2) hs (by omega))
      rw [unhide HT1, unhide HI9] at HRW
      clear hxd HX2
      refine wpAnyH_takeD 0 (some 21) (.agg #[.int .i64 0, .string ⟨#[]⟩, .slice p n c]) rfl rfl (by kernel_rfl) (by kernel_rfl) (by kernel_rfl) (fun _ _ _ h => h) (Or.inl ⟨by rfl, fun w hSw => by obtain ⟨s0, s1, s2⟩ := hSw; go_simp⟩) hS ?_
      simp only [Act.put, List.setIfInBounds_toArray, List.set_cons_zero, List.set_cons_succ]
      refine wpAnyH_takeD 1 (some 22) (.pointer (some ⟨b, 0, none⟩)) rfl rfl (by kernel_rfl) (by kernel_rfl) (by kernel_rfl) (fun _ _ _ h => h) (Or.inl ⟨by rfl, fun w hSw => by obtain ⟨s0, s1, s2⟩ := hSw; go_simp⟩) hS ?_
      simp only [Act.put, List.setIfInBounds_toArray, List.set_cons_zero, List.set_cons_succ]
      refine wpAnyH_takeD 2 (some 23) (.int .i64 (d : Int)) rfl rfl (by kernel_rfl) (by kernel_rfl) (by kernel_rfl) (fun _ _ _ h => h) (Or.inl ⟨by rfl, fun w hSw => by obtain ⟨s0, s1, s2⟩ := hSw; go_simp⟩) hS ?_
      simp only [Act.put, List.setIfInBounds_toArray, List.set_cons_zero, List.set_cons_succ]
      refine wpAnyH_takeD 4 (some 25) (.int .i64 (d : Int)) rfl rfl (by kernel_rfl) (by kernel_rfl) (by kernel_rfl) (fun _ _ _ h => h) (Or.inl ⟨by rfl, fun w hSw => by obtain ⟨s0, s1, s2⟩ := hSw; go_simp⟩) hS ?_
      simp only [Act.put, List.setIfInBounds_toArray, List.set_cons_zero, List.set_cons_succ]
      refine wpAnyH_ready (rs := [3]) (by kernel_rfl) (by simp) ?_
      refine AllReadyH.cons rfl (fun K hK => ?_) AllReadyH.nil
      simp only [List.getElem_toArray, List.getElem_cons_succ, List.getElem_cons_zero]
      go_simp
      refine (unhide HRW).mono ?_
      rintro e z1 ⟨rfl, hA1, hO1⟩
      have hB1 := (unhide HX3).1.only hO1 (by omega)
      have hG1 := (unhide HX3).2.1.only hO1 (by omega)
      have HZ1 := hide (And.intro hB1 (And.intro hG1 (And.intro hA1 (And.intro (own_onlyW (unhide HX3).2.2.2.1 hO1 (fun q hq e => by have := ((unhide HX3).2.2.2.1.lt q hq).1; omega)) ((unhide HX3).2.2.2.2.trans hO1 (fun _ _ q => q))))))
      clear hB1 hG1 hA1 hO1 HRW
      refine hK.out _ _ ⟨(unhide HZ1).1.cell 0, (unhide HZ1).1.cell 1, (unhide HZ1).1.cell 2⟩ (fun hS => ?_)
      clear hK K
      refine wpAnyH_ready (rs := [5]) (by kernel_rfl) (by simp) ?_
      refine AllReadyH.cons rfl (fun K hK => ?_) AllReadyH.nil
      simp only [List.getElem_toArray, List.getElem_cons_succ, List.getElem_cons_zero]
      go_simp
      refine (unhide HNO z1).mono ?_
      rintro e z2 ⟨rfl, hb2⟩
      have HZ2 := hide (And.intro ((unhide HZ1).1.below hb2 (unhide HZ1).1.lt) (And.intro ((unhide HZ1).2.1.below hb2 (unhide HZ1).2.1.lt) (And.intro ((unhide HZ1).2.2.1.below hb2 (unhide HZ1).2.2.1.lt) (And.intro (own_onlyW (unhide HZ1).2.2.2.1 (Only.of_below (P := fun _ => False) hb2) (fun _ _ q => q)) ((unhide HZ1).2.2.2.2.trans (Only.of_below (P := fun _ => False) hb2) (fun _ _ e => e.elim))))))
      clear hb2 HZ1
      refine hK.out _ _ ⟨(unhide HZ2).1.cell 0, (unhide HZ2).1.cell 1, (unhide HZ2).1.cell 2⟩ (fun hS => ?_)
      clear hK K
      refine wpAnyH_takeD 6 (some 27) (.bool false) rfl rfl (by kernel_rfl) (by kernel_rfl) (by kernel_rfl) (fun _ _ _ h => h) (Or.inl ⟨by rfl, fun w hSw => by obtain ⟨s0, s1, s2⟩ := hSw; go_simp⟩) hS ?_
      simp only [Act.put, List.setIfInBounds_toArray, List.set_cons_zero, List.set_cons_succ]
      refine wpAnyH_takeD 7 (some 28) (.bool false) rfl rfl (by kernel_rfl) (by kernel_rfl) (by kernel_rfl) (fun _ _ _ h => h) (Or.inl ⟨by rfl, fun w hSw => by obtain ⟨s0, s1, s2⟩ := hSw; go_simp⟩) hS ?_
      simp only [Act.put, List.setIfInBounds_toArray, List.set_cons_zero, List.set_cons_succ]
      refine wpAnyH_takeD 8 (some 29) undef rfl rfl (by kernel_rfl) (by kernel_rfl) (by kernel_rfl) (fun _ _ _ h => h) (Or.inr ⟨by rfl, rfl⟩) hS ?_
      simp only [Act.put, List.setIfInBounds_toArray, List.set_cons_zero, List.set_cons_succ]
      refine wpAnyH_takeD 9 (some 30) undef rfl rfl (by kernel_rfl) (by kernel_rfl) (by kernel_rfl) (fun _ _ _ h => h) (Or.inr ⟨by rfl, rfl⟩) hS ?_
      simp only [Act.put, List.setIfInBounds_toArray, List.set_cons_zero, List.set_cons_succ]
      refine wpAnyH_takeD 10 (some 31) undef rfl rfl (by kernel_rfl) (by kernel_rfl) (by kernel_rfl) (fun _ _ _ h => h) (Or.inr ⟨by rfl, rfl⟩) hS ?_
      simp only [Act.put, List.setIfInBounds_toArray, List.set_cons_zero, List.set_cons_succ]
      refine wpAnyH_takeD 11 (some 32) (.bool false) rfl rfl (by kernel_rfl) (by kernel_rfl) (by kernel_rfl) (fun _ _ _ h => h) (Or.inl ⟨by rfl, fun w hSw => by obtain ⟨s0, s1, s2⟩ := hSw; go_simp⟩) hS ?_
      simp only [Act.put, List.setIfInBounds_toArray, List.set_cons_zero, List.set_cons_succ]
      obtain ⟨z5, hz5⟩ : ∃ Z, ((z2.setCell ⟨g + 1, 0, none⟩ (.int .i64 0)).setCell ⟨g + 1, 1, none⟩ (.string ⟨#[]⟩)).setCell ⟨g + 1, 2, none⟩ (.slice p n c) = Z := ⟨_, rfl⟩
      have e0 : z2.cell? ⟨g + 1, 0, none⟩ = some (.int .i64 0) := (unhide HZ2).2.1.cell 0
      have e1 : z2.cell? ⟨g + 1, 1, none⟩ = some (.string ⟨#[]⟩) := (unhide HZ2).2.1.cell 1
      have e2 : z2.cell? ⟨g + 1, 2, none⟩ = some (.slice none 0 0) := (unhide HZ2).2.1.cell 2
      have f0 : z2.frozen? ⟨g + 1, 0, none⟩ = false := (unhide HZ2).2.1.frozen 0
      have f1 : z2.frozen? ⟨g + 1, 1, none⟩ = false := (unhide HZ2).2.1.frozen 1
      have f2 : z2.frozen? ⟨g + 1, 2, none⟩ = false := (unhide HZ2).2.1.frozen 2
      have o1 := (Only.refl (fun j => j = g + 1) z2).setCell ⟨g + 1, 0, none⟩ (.int .i64 0) (fun _ => rfl)
      have o2 := o1.setCell ⟨g + 1, 1, none⟩ (.string ⟨#[]⟩) (fun _ => rfl)
      have oS := o2.setCell ⟨g + 1, 2, none⟩ (.slice p n c) (fun _ => rfl)
      rw [hz5] at oS
      clear o1 o2
      have HZ5 := hide (show Blk z5 h #[.int .i64 0, .string ⟨#[]⟩, .slice p n c] 103 ∧ Blk z5 (g + 1) #[.int .i64 0, .string ⟨#[]⟩, .slice p n c] 103 ∧ At z5 b s (i + 9) ∧ z5.ownsRow g 3 1 (.slice p n c) n ((tkB s (i + 1) n).map (Value.int .i64)) ∧ Only (fun j => j = b) w z5 from
        ⟨(unhide HZ2).1.only oS (by omega), by rw [← hz5]; exact ((((unhide HZ2).2.1.set 0 (.int .i64 0)).set 1 (.string ⟨#[]⟩)).set 2 (.slice p n c)), (unhide HZ2).2.2.1.only oS (by omega), own_onlyW (own_baseW (unhide HZ2).2.2.2.1 (by omega)) oS (fun q hq e => by have := ((unhide HZ2).2.2.2.1.lt q hq).1; omega), (unhide HZ2).2.2.2.2.trans oS (fun k hk q => by omega)⟩)
      have HE5 := hide hz5
      clear oS
      refine wpAnyH_ready (rs := [12]) (by kernel_rfl) (by simp) ?_
      refine AllReadyH.cons rfl (fun K hK => ?_) AllReadyH.nil
      simp only [List.getElem_toArray, List.getElem_cons_succ, List.getElem_cons_zero]
      go_simp
      (try rw [unhide HE5])
      refine hK.out _ _ ⟨(unhide HZ5).1.cell 0, (unhide HZ5).1.cell 1, (unhide HZ5).1.cell 2⟩ (fun hS => ?_)
      clear hK K
      refine wpAnyH_takeD 13 (some 5) (.bool false) rfl rfl (by kernel_rfl) (by kernel_rfl) (by kernel_rfl) (fun _ _ _ h => h) (Or.inl ⟨by rfl, fun w hSw => by obtain ⟨s0, s1, s2⟩ := hSw; go_simp⟩) hS ?_
      simp only [Act.put, List.setIfInBounds_toArray, List.set_cons_zero, List.set_cons_succ]
      refine wpAnyH_done (by kernel_rfl) ?_ _
      clear hS
      have HL := hide (iload_blk 103 _ (unhide HZ5).2.1 Tryz.underlying103 rfl size_prt)
      go_wp2
      (try simp only [Exit.inBlock, Exit.then])
      refine bodyPost_ret (v := .tuple #[.agg #[.int .i64 0, .string ⟨#[]⟩, .slice p n c], .bool false]) (results_cell2 (p := 4) (q := 5) (ty := 103) rfl _ _ _ ⟨g + 1, 0, none⟩ rfl _ (unhide HL)) rfl ?_
      refine ⟨⟨0, ⟨#[]⟩, p, n, c⟩, by rw [unhide HVB]; rfl, (unhide HZ5).2.2.2.2, fun q => by rw [unhide HVB] at q; cases q⟩
  · have q1 : ((n : Int) > 8) := by omega
    have HVB := hide (show vtB s i = false from by rw [vtB, unhide HNV, decide_eq_false h8, Bool.false_and])
    have BT := blk_setRow (cells := Prt.nil.cs) C2
    have HL := hide (iload_blk 103 _ BT Tryz.underlying103 rfl size_prt)
    have HZ := hide C2
    have HOP := hide (Prt.one Prt.nil)
    have HF := hide (show Only (fun j => j = b) w (x.setRow (g + 1) Prt.nil.cs) from hO.trans (only_setRow (P := fun j => j = g + 1) (g + 1) _ rfl) (fun k hk q => by omega))
    have HBN := hide built_prt
    clear hy C2 hO hAx BT h8
    go_wp2_with (first | refine wpList_buildAs rfl 103 #[] rfl _ rfl Prt.nil.cs (unhide HBN) ?_ | refine wpList_store_row rfl 103 (.tmp 4) (.tmp 13) rfl (g + 1) Prt.nil.cs rfl rfl 103 #[.int .i64 0, .string ⟨#[]⟩, .slice none 0 0] (unhide HZ) size_prt rfl (unhide HOP) ?_)
    (try simp only [Exit.inBlock, Exit.then])
    refine bodyPost_ret (v := .tuple #[.agg Prt.nil.cs, .bool false]) (results_cell2 (p := 4) (q := 5) (ty := 103) rfl _ _ _ ⟨g + 1, 0, none⟩ rfl _ (unhide HL)) rfl ?_
    exact ⟨Prt.nil, by rw [unhide HVB], unhide HF, fun q => by rw [unhide HVB] at q; cases q⟩
end Go.Proofs.YtclgkgaobjcifaaGreatDoor

namespace Go.Proofs.YtclgkgaobjcifaaGreatDoor
open Go.RowKit
set_option maxRecDepth 100000
end Go.Proofs.YtclgkgaobjcifaaGreatDoor

namespace Go.Proofs.YtclgkgaobjcifaaGreatDoor
open Go.RowKit
set_option maxRecDepth 100000
theorem built_norep : Tryz.prog.built 34 [] = some (Rep.bare 0).cs := by kernel_rfl
theorem blkT {w : World} {b : Nat} {c c' : Array Value} {T T' : TypeId} (h : Blk w b c T) (h' : Blk w b c' T') : T = T' := by
  have e1 := (show w.heap[b]? = _ from h).symm.trans (show w.heap[b]? = _ from h')
  injection e1 with e1
  injection e1
end Go.Proofs.YtclgkgaobjcifaaGreatDoor

namespace Go.Proofs.YtclgkgaobjcifaaGreatDoor
open Go.RowKit
set_option maxRecDepth 100000
end Go.Proofs.YtclgkgaobjcifaaGreatDoor
