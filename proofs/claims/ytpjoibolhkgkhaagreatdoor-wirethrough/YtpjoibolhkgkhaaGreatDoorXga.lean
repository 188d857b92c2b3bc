import Derived.Test.YtpjoibolhkgkhaaGreatDoorXfj
import Derived.Test.YtpjoibolhkgkhaaGreatDoorRda
namespace Go.Proofs.YtpjoibolhkgkhaaGreatDoor
open Go.RowKit
set_option maxRecDepth 100000
theorem ety_onlyR {w w' : World} {b : Nat} {s : RSt} (hg : ETy w) (h : Rds w b s) (ho : Only (fun k => k = b) w w') : ETy w' := hg.only ho (fun q => h.ne hg q.symm)
/-- a Reader of s that stands at place i -/
def At (w : World) (b : Nat) (s : ByteArray) (i : Nat) : Prop := Rds w b ⟨s.extract i s.size, (i : Int), 0⟩
theorem At.only {w w' : World} {b : Nat} {s : ByteArray} {i : Nat} {P : Nat → Prop} (h : At w b s i) (ho : Only P w w') (hp : ¬ P b) : At w' b s i := Rds.only h ho hp
theorem At.below {w w' : World} {b B : Nat} {s : ByteArray} {i : Nat} (h : At w b s i) (hb : Below B w w') (hB : b < B) : At w' b s i := Blk.below h hb hB
theorem At.lt {w : World} {b : Nat} {s : ByteArray} {i : Nat} (h : At w b s i) : b < w.heap.size := Blk.lt h
theorem numA (w : World) (b : Nat) (s : ByteArray) (i k : Nat) (h : At w b s i) (hg : ETy w) (hs : s.size ≤ 150000000000000) (h1 : 1 ≤ k) (h7 : k ≤ 4) (hk : i + k ≤ s.size) :
    Calls Tryz.prog 39 #[.pointer (some ⟨b, 0, none⟩), .int .i64 (k : Int)] w fun e w' => e = .returned (.int .i64 (beN (((nums s).drop i).take k))) ∧ At w' b s (i + k) ∧ Only (fun j => j = b) w w' := by
  have hsz : (s.extract i s.size).size = s.size - i := by simp
  have hn : (nums (s.extract i s.size)).take k = ((nums s).drop i).take k := by rw [nums_tail]
  have hbd := (be_bound (((nums s).drop i).take k) (by
    intro j
    have hq := nums_bytes s
    simp only [List.getD_eq_getElem?_getD, List.getElem?_take, List.getElem?_drop]
    split
    · have := hq (i + j); simpa [List.getD_eq_getElem?_getD] using this
    · simp) k).2
  rw [List.take_take, Nat.min_self] at hbd
  have hp : (256 : Int) ^ k ≤ 256 ^ 4 := by
    have := Nat.pow_le_pow_right (show 0 < 256 by decide) h7
    exact_mod_cast this
  have hE : numE (k : Int) (s.extract i s.size) = 0 := by
    rw [numE, if_neg (by omega), if_neg (by omega), if_neg]
    rw [Int.toNat_natCast, hn]
    omega
  refine (numS w b _ h hg ⟨by simp, by simp only [hsz]; omega⟩ (k : Int)).mono ?_
  rintro e w' ⟨rfl, hR, hO⟩
  refine ⟨?_, ?_, hO⟩
  · simp only [if_true]
    rw [numV, if_pos hE, Int.toNat_natCast, hn]
  · unfold At
    rw [hE] at hR
    simp only [stepR, if_true, rRest, rTak, Int.toNat_natCast] at hR
    rw [extract_tail] at hR
    have e : ((i : Int) + (k : Int)) = ((i + k : Nat) : Int) := by omega
    rw [e] at hR
    exact hR
theorem rawA (w : World) (b : Nat) (s : ByteArray) (i k : Nat) (h : At w b s i) (hg : ETy w) (hs : s.size ≤ 150000000000000) (hk : i + k ≤ s.size) :
    Calls Tryz.prog 73 #[.pointer (some ⟨b, 0, none⟩), .int .i64 (k : Int)] w fun e w' => e = .returned (.string (s.extract i (i + k))) ∧ At w' b s (i + k) ∧ Only (fun j => j = b) w w' := by
  have hsz : (s.extract i s.size).size = s.size - i := by simp
  have hE : rawE (k : Int) (s.extract i s.size) = 0 := by
    rw [rawE, if_neg (by omega), if_neg (by omega)]
  refine (rawS w b _ h hg ⟨by simp, by simp only [hsz]; omega⟩ (k : Int)).mono ?_
  rintro e w' ⟨rfl, hR, hO⟩
  refine ⟨?_, ?_, hO⟩
  · simp only [if_true]
    rw [rawV, if_pos hE, Int.toNat_natCast, extract_mid]
  · unfold At
    rw [hE] at hR
    simp only [stepR, if_true, rRest, rTak, Int.toNat_natCast] at hR
    rw [extract_tail] at hR
    have e : ((i : Int) + (k : Int)) = ((i + k : Nat) : Int) := by omega
    rw [e] at hR
    exact hR
/-- the part that a field has of a frame's bytes at a place; may it be? -/
def prF (f : Fld) (s : ByteArray) (i : Nat) : Prt := if f.k = 0 then Prt.num (beN (((nums s).drop i).take f.b)) else Prt.txt (s.extract i (i + f.b))
def okT (f : Fld) (p : Prt) : Bool := if f.k = 0 then decide ((f.lo : Int) ≤ p.n ∧ p.n ≤ (f.hi : Int)) else true
/-- the fields of a request taken off a frame -/
def takeQ : List Fld → Req → ByteArray → Nat → Option Req
  | [], r, _, _ => some r
  | f :: fs, r, s, i => if okT f (prF f s i) then takeQ fs (exq f r (prF f s i)).1 s (i + f.b) else none
theorem built_num (n : Int) : Tryz.prog.built 103 [(0, .int .i64 n)] = some (Prt.num n).cs := by kernel_rfl
theorem built_txt (t : ByteArray) : Tryz.prog.built 103 [(1, .string t)] = some (Prt.txt t).cs := by kernel_rfl
set_option maxHeartbeats 2000000 in
theorem ttake_any (bb : Nat) (w : World) (b : Nat) (s : ByteArray) (i : Nat) (hA : At w b s i) (hg : ETy w) (hs : s.size ≤ 150000000000000) (hk : i + bb ≤ s.size) :
    Calls Tryz.prog 136 #[.agg #[.int .i64 (bb : Int)], .pointer (some ⟨b, 0, none⟩)] w fun e w' => e = .returned (.tuple #[.agg (Prt.txt (s.extract i (i + bb))).cs, .bool true]) ∧ At w' b s (i + bb) ∧ Only (fun j => j = b) w w' := by
  obtain ⟨B1, B2, hbl, hs2⟩ := two_boxes w #[.int .i64 (bb : Int)] #[.int .i64 0, .string ⟨#[]⟩, .slice none 0 0] 128 103
  obtain ⟨g, hgg⟩ : ∃ g, w.heap.size = g := ⟨_, rfl⟩
  obtain ⟨y, hy⟩ : ∃ Z, (w.alloc (.cells #[.int .i64 (bb : Int)] 128)).alloc (.cells #[.int .i64 0, .string ⟨#[]⟩, .slice none 0 0] 103) = Z := ⟨_, rfl⟩
  rw [hgg] at B1 B2 hs2 hbl
  rw [hy] at B1 B2 hbl hs2
  have hbg : b < g := by rw [← hgg]; exact hA.lt
  have HR := hide (rawA y b s i bb (hA.below hbl hbg) (hg.below hbl (by rw [← hgg]; exact hg.lt)) hs hk)
  have a0 : y.cell? ⟨g, 0, none⟩ = some (.int .i64 (bb : Int)) := by rw [B1.cell]; rfl
  have HY := hide (And.intro B2 hbl)
  have HB := hide (built_txt (s.extract i (i + bb)))
  have HO := hide (Prt.one (Prt.txt (s.extract i (i + bb))))
  clear B1 B2 hbl hs2 hA hg
  obtain ⟨tx, htx⟩ : ∃ Z, s.extract i (i + bb) = Z := ⟨_, rfl⟩
  rw [htx] at HR HB HO ⊢
  clear htx
  go_enter Tryz.func136, Tryz.ntmps136
  go_wp2_with fail
  refine (unhide HR).mono ?_
  rintro e x ⟨rfl, hAx, hOx⟩
  obtain ⟨B2, hbl⟩ := unhide HY
  have C2 := B2.only hOx (by omega)
  have BT := blk_setRow (cells := (Prt.txt tx).cs) C2
  have HL := hide (iload_blk 103 _ BT Tryz.underlying103 rfl size_prt)
  have HZ := hide C2
  have HF := hide (show At (x.setRow (g + 1) (Prt.txt tx).cs) b s (i + bb) ∧ Only (fun j => j = b) w (x.setRow (g + 1) (Prt.txt tx).cs) from
    ⟨hAx.only (only_setRow (P := fun j => j = g + 1) (g + 1) _ rfl) (by omega), by
      have o1 : Only (fun j => j = b) w y := Only.of_below (by rw [hgg]; exact hbl)
      exact (o1.trans hOx (fun _ _ q => q)).trans (only_setRow (P := fun j => j = g + 1) (g + 1) _ rfl) (fun k hk q => by omega)⟩)
  clear B2 hbl C2 BT hAx hOx a0 hy HR HY
  go_wp2_with (first | refine wpList_buildAs rfl 103 #[(1, .tmp 9)] rfl _ rfl (Prt.txt tx).cs (unhide HB) ?_ | refine wpList_store_row rfl 103 (.tmp 4) (.tmp 10) rfl (g + 1) (Prt.txt tx).cs rfl rfl 103 #[.int .i64 0, .string ⟨#[]⟩, .slice none 0 0] (unhide HZ) size_prt rfl (unhide HO) ?_)
  (try simp only [Exit.inBlock, Exit.then])
  refine bodyPost_ret (v := .tuple #[.agg (Prt.txt tx).cs, .bool true]) (results_cell2 (p := 4) (q := 5) (ty := 103) rfl _ _ _ ⟨g + 1, 0, none⟩ rfl _ (unhide HL)) rfl ?_
  exact ⟨rfl, unhide HF⟩
set_option maxHeartbeats 2000000 in
theorem ntake_any (bb lo hi : Nat) (h1 : 1 ≤ bb) (h4 : bb ≤ 4) (w : World) (b : Nat) (s : ByteArray) (i : Nat) (hA : At w b s i) (hg : ETy w) (hs : s.size ≤ 150000000000000) (hk : i + bb ≤ s.size) (n : Int) (hn : beN (((nums s).drop i).take bb) = n) :
    Calls Tryz.prog 132 #[.agg #[.int .i64 (bb : Int), .int .i64 (lo : Int), .int .i64 (hi : Int)], .pointer (some ⟨b, 0, none⟩)] w fun e w' => e = .returned (.tuple #[.agg (Prt.num n).cs, .bool (decide ((lo : Int) ≤ n ∧ n ≤ (hi : Int)))]) ∧ At w' b s (i + bb) ∧ Only (fun j => j = b) w w' := by
  obtain ⟨B1, B2, hbl, hs2⟩ := two_boxes w #[.int .i64 (bb : Int), .int .i64 (lo : Int), .int .i64 (hi : Int)] #[.int .i64 0, .string ⟨#[]⟩, .slice none 0 0] 119 103
  obtain ⟨g, hgg⟩ : ∃ g, w.heap.size = g := ⟨_, rfl⟩
  obtain ⟨y, hy⟩ : ∃ Z, (w.alloc (.cells #[.int .i64 (bb : Int), .int .i64 (lo : Int), .int .i64 (hi : Int)] 119)).alloc (.cells #[.int .i64 0, .string ⟨#[]⟩, .slice none 0 0] 103) = Z := ⟨_, rfl⟩
  rw [hgg] at B1 B2 hs2 hbl
  rw [hy] at B1 B2 hbl hs2
  have hbg : b < g := by rw [← hgg]; exact hA.lt
  have hR := numA y b s i bb (hA.below hbl hbg) (hg.below hbl (by rw [← hgg]; exact hg.lt)) hs h1 h4 hk
  rw [hn] at hR
  have HR := hide hR
  have a0 : y.cell? ⟨g, 0, none⟩ = some (.int .i64 (bb : Int)) := by rw [B1.cell]; rfl
  have HY := hide (And.intro B1 (And.intro B2 (And.intro hbl hs2)))
  have HB := hide (built_num n)
  have HO := hide (Prt.one (Prt.num n))
  have HM := hide (mayBe_any (bb : Int) (lo : Int) (hi : Int) n)
  clear B1 B2 hbl hs2 hA hg hR hn
  generalize decide ((lo : Int) ≤ n ∧ n ≤ (hi : Int)) = D at *
  go_enter Tryz.func132, Tryz.ntmps132
  go_wp2_with fail
  refine (unhide HR).mono ?_
  rintro e x ⟨rfl, hAx, hOx⟩
  obtain ⟨B1, B2, hbl, hs2⟩ := unhide HY
  have C1 := B1.only hOx (by omega)
  have C2 := B2.only hOx (by omega)
  have c0 : x.cell? ⟨g, 0, none⟩ = some (.int .i64 (bb : Int)) := by rw [C1.cell]; rfl
  have c1 : x.cell? ⟨g, 1, none⟩ = some (.int .i64 (lo : Int)) := by rw [C1.cell]; rfl
  have c2 : x.cell? ⟨g, 2, none⟩ = some (.int .i64 (hi : Int)) := by rw [C1.cell]; rfl
  have HX := hide (And.intro C2 (And.intro hAx (show Only (fun j => j = b) w x from (Only.of_below (P := fun j => j = b) (by rw [hgg]; exact hbl)).trans hOx (fun _ _ q => q))))
  have hgx : g + 1 < x.heap.size := C2.lt
  clear B1 B2 hbl hs2 C1 C2 hAx hOx a0 hy HR HY
  go_wp2_with (refine wpList_buildAs rfl 103 #[(0, .tmp 11)] rfl _ rfl (Prt.num n).cs (unhide HB) ?_)
  refine (unhide HM _).mono ?_
  rintro e z ⟨rfl, hz⟩
  obtain ⟨C2, hAx, hOx⟩ := unhide HX
  have D2 := C2.below hz C2.lt
  have BT := blk_setRow (cells := (Prt.num n).cs) D2
  have HL := hide (iload_blk 103 _ BT Tryz.underlying103 rfl size_prt)
  have HZ := hide D2
  have HF := hide (show At (z.setRow (g + 1) (Prt.num n).cs) b s (i + bb) ∧ Only (fun j => j = b) w (z.setRow (g + 1) (Prt.num n).cs) from
    ⟨(hAx.below hz hAx.lt).only (only_setRow (P := fun j => j = g + 1) (g + 1) _ rfl) (by omega),
      (hOx.trans (Only.of_below (P := fun _ => False) hz) (fun _ _ q => q.elim)).trans (only_setRow (P := fun j => j = g + 1) (g + 1) _ rfl) (fun k hk q => by omega)⟩)
  clear C2 D2 BT hAx hOx hz c0 c1 c2 HX
  go_wp2_with (refine wpList_store_row rfl 103 (.tmp 4) (.tmp 12) rfl (g + 1) (Prt.num n).cs rfl rfl 103 #[.int .i64 0, .string ⟨#[]⟩, .slice none 0 0] (unhide HZ) size_prt rfl (unhide HO) ?_)
  (try simp only [Exit.inBlock, Exit.then])
  refine bodyPost_ret (v := .tuple #[.agg (Prt.num n).cs, .bool D]) (results_cell2 (p := 4) (q := 5) (ty := 103) rfl _ _ _ ⟨g + 1, 0, none⟩ rfl _ (unhide HL)) rfl ?_
  exact ⟨rfl, unhide HF⟩
end Go.Proofs.YtpjoibolhkgkhaaGreatDoor
