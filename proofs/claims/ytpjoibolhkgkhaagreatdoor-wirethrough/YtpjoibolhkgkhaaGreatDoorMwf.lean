import Derived.Test.YtpjoibolhkgkhaaGreatDoorXfj
import Derived.Test.YtpjoibolhkgkhaaGreatDoorMtr
import Derived.Test.YtpjoibolhkgkhaaGreatDoorMrq
import Derived.Test.YtpjoibolhkgkhaaGreatDoorMrp
namespace Go.Proofs.YtpjoibolhkgkhaaGreatDoor
open Go.RowKit
set_option maxRecDepth 100000
def rq0 : Req := ⟨1, 3, 258, 0, 0, 0, ⟨#[]⟩, ⟨#[]⟩, ⟨#[]⟩, ⟨#[]⟩⟩
def rp0 : Rep := ⟨0, 258, 3, none, 0, 0, 0, none, 0, 0, ⟨#[]⟩, ⟨#[]⟩⟩
theorem lay_rq0 : layQ (rqF 1) rq0 = some (Req.bare 1, [3, 1, 2]) := by
  simp [layQ, rqF, exq, okF, byF, rq0, Req.bare, fTen, fQuo, Prt.num, Prt.nil, numB, List.range_succ]
theorem rq0_B : lqB rq0 = true := by
  have h : layQ (rqF rq0.kd) rq0 = some (Req.bare 1, [3, 1, 2]) := lay_rq0
  rw [lqB, h]
  simp [eqQ, Req.bare, rq0]
theorem rq0_L : eqL rq0 = [1, 3, 1, 2] := by
  have h : layQ (rqF rq0.kd) rq0 = some (Req.bare 1, [3, 1, 2]) := lay_rq0
  rw [eqL, lqL, h]
  simp [rq0, numB, List.range_succ]
theorem lay_rp0 : layR (rpF 7) rp0 = some (Rep.bare 0, [1, 2, 0, 3]) := by
  simp [layR, rpF, exr, okF, byF, rp0, Rep.bare, fQuo, fCha, Prt.num, Prt.nil, numB, List.range_succ]
theorem rp0_B : lrB 7 rp0 = true := by
  rw [lrB, lay_rp0]
  simp [bareP, Rep.bare]
theorem rp0_L : epL 7 rp0 = [0, 1, 2, 0, 3] := by
  rw [epL, lrL, lay_rp0]
  simp [rp0, numB, List.range_succ]
theorem front_str (a b : List Int) (n : Nat) (hn : n = a.length) : (strOfNums a ++ strOfNums b).extract 0 n = strOfNums a := by
  subst hn
  apply ByteArray.ext
  simp [strOfNums, ByteArray.data_extract, ByteArray.data_append]
theorem built_rq0 : Tryz.prog.built 29 [(0, .int .i64 1), (1, .int .i64 3), (2, .int .i64 258)] = some rq0.cs := by kernel_rfl
theorem built_rp0 : Tryz.prog.built 34 [(1, .int .i64 258), (2, .int .i64 3)] = some rp0.cs := by kernel_rfl
set_option maxHeartbeats 2000000 in
theorem known12_any (w : World) : Calls Tryz.prog 8 #[] w fun e w' => e = .returned (.bool true) ∧ Below w.heap.size w w' := by
  have hE := encodeRequest_any rq0
  have e1 : encQ rq0 = strOfNums [1, 3, 1, 2] ++ strOfNums (le4 (chkN [1, 3, 1, 2])) := by
    rw [encQ, if_pos (by decide), if_pos rq0_B, rq0_L]
  have e2 : errQ rq0 = 0 := by rw [errQ, if_pos (by decide), if_pos rq0_B]
  rw [e1, e2] at hE
  have hP := fun W => encodeReply_full 7 (by decide) rp0 (by decide) (by decide) (by intro f hf; simp [rpF] at hf; rcases hf with rfl | rfl <;> simp [IsN]) rp0_B W
  have e3 : epL ((7 : Nat) : Int) rp0 = [0, 1, 2, 0, 3] := rp0_L
  rw [e3] at hP
  have l4 : ∀ c : Nat, (strOfNums (le4 c)).size = 4 := fun c => by rw [strOfNums_size]; rfl
  have s1 : (strOfNums [1, 3, 1, 2] ++ strOfNums (le4 (chkN [1, 3, 1, 2]))).size = 8 := by rw [ByteArray.size_append, strOfNums_size, l4]; rfl
  have x1 : (strOfNums [1, 3, 1, 2] ++ strOfNums (le4 (chkN [1, 3, 1, 2]))).extract 0 4 = ⟨#[1, 3, 1, 2]⟩ := front_str _ _ 4 rfl
  have s2 : (strOfNums [0, 1, 2, 0, 3] ++ strOfNums (le4 (chkN (((7 : Nat) : Int) :: [0, 1, 2, 0, 3])))).size = 9 := by rw [ByteArray.size_append, strOfNums_size, l4]; rfl
  have x2 : (strOfNums [0, 1, 2, 0, 3] ++ strOfNums (le4 (chkN (((7 : Nat) : Int) :: [0, 1, 2, 0, 3])))).extract 0 5 = ⟨#[0, 1, 2, 0, 3]⟩ := front_str _ _ 5 rfl
  have HE := hide hE
  have HP := hide hP
  clear hE hP e1 e2 e3 l4
  generalize strOfNums [1, 3, 1, 2] ++ strOfNums (le4 (chkN [1, 3, 1, 2])) = S at *
  generalize strOfNums [0, 1, 2, 0, 3] ++ strOfNums (le4 (chkN (((7 : Nat) : Int) :: [0, 1, 2, 0, 3]))) = T at *
  have HB1 := hide built_rq0
  have HB2 := hide built_rp0
  go_enter Tryz.func8, Tryz.ntmps8
  go_wp2_with (first | refine wpList_buildAs rfl 29 #[(0, .const (.int .i64 1)), (1, .const (.int .i64 3)), (2, .const (.int .i64 258))] rfl _ rfl rq0.cs (unhide HB1) ?_)
  refine (unhide HE _).mono ?_
  rintro e y ⟨rfl, hy⟩
  have HY := hide hy
  clear hy
  go_wp2_with (first | refine wpList_buildAs rfl 34 #[(1, .const (.int .i64 258)), (2, .const (.int .i64 3))] rfl _ rfl rp0.cs (unhide HB2) ?_)
  refine (unhide HP _).mono ?_
  rintro e z ⟨rfl, hz⟩
  have HZ := hide hz
  clear hz
  go_wp2
  go_ret
  exact ⟨rfl, (unhide HY).trans ((unhide HZ).mono (unhide HY).size)⟩
end Go.Proofs.YtpjoibolhkgkhaaGreatDoor
namespace Go.Proofs.YtpjoibolhkgkhaaGreatDoor
open Go.RowKit
set_option maxRecDepth 100000
/-- what DecodeReply answers, as far as it is wanted here -/
def DqQ (fb : Bool) (g : Nat) (w : World) (e : Ending) (w' : World) : Prop := ∃ (r : Rep) (E : Int), e = .returned (.tuple #[.agg r.cs, .int .i64 E]) ∧ (fb = false → E = 121) ∧ Below g w w'
set_option maxHeartbeats 8000000 in
theorem decodeReply_some (k : Nat) (hk : k ≤ 12) (s : ByteArray) (hs : s.size ≤ 150000000000000) (w : World) (hE : ETy w) : Calls Tryz.prog 16 #[.int .i64 (k : Int), .string s] w fun e w' => DqQ (frB s (rpF (k : Int)) (strOfNums [(k : Int)])) w.heap.size w e w' := by
  have HKK := hide (isReplyKind_any (k : Int))
  rw [decide_eq_true (show (0 : Int) ≤ (k : Int) ∧ (k : Int) ≤ 12 by omega)] at HKK
  have HKB := hide (fun W => kindByte_any k hk W)
  have hk1 : (strOfNums [(k : Int)]).size = 1 := by
    rw [← nums_len, nums_strOfNums]
    · rfl
    · intro j
      cases j with
      | zero => simp; omega
      | succ j => simp
  have HIF := hide (fun v W hR => isFrame_any s hs (rpF (k : Int)) (fun f hf => (rpF_all (k : Int) f hf).isF) (rpF_len (k : Int)) (strOfNums [(k : Int)]) (by omega) v W hR)
  have HFR := hide (show frB s (rpF (k : Int)) (strOfNums [(k : Int)]) = true → 1 + szF (rpF (k : Int)) ≤ s.size ∧ 0 < s.size by
    intro q
    unfold frB at q
    by_cases e : s.size = 5 + szF (rpF (k : Int))
    · omega
    · rw [if_neg e] at q; exact absurd q (by decide))
  have HTK := hide (fun st W b (q : 1 + szF (rpF (k : Int)) ≤ s.size) hA hEE => takeReply_some (k : Int) st s hs q W b hA hEE)
  have HRF := hide (rpf_any (k : Int))
  generalize frB s (rpF (k : Int)) (strOfNums [(k : Int)]) = FB at *
  generalize strOfNums [(k : Int)] = S1 at *
  generalize rpF (k : Int) = fs at *
  obtain ⟨g, hg⟩ : ∃ g, w.heap.size = g := ⟨_, rfl⟩
  obtain ⟨y, hy⟩ : ∃ Z, w.alloc (.cells #[.int .i64 0, .int .i64 0, .int .i64 0, .slice none 0 0, .int .i64 0, .slice none 0 0, .string ⟨#[]⟩, .string ⟨#[]⟩] 34) = Z := ⟨_, rfl⟩
  have BY : Blk y g #[.int .i64 0, .int .i64 0, .int .i64 0, .slice none 0 0, .int .i64 0, .slice none 0 0, .string ⟨#[]⟩, .string ⟨#[]⟩] 34 := by rw [← hy, ← hg]; exact Blk.new w _ _
  have hby : Below g w y := by rw [← hy, ← hg]; exact (Below.refl _ w).alloc (Nat.le_refl _) _
  have HEW := hide (fun W (q : Below g w W) => hE.below q (by rw [← hg]; exact hE.lt))
  have HY := hide (And.intro BY hby)
  rw [hg]
  clear BY hby hE hk1
  go_enter Tryz.func16, Tryz.ntmps16
  go_wp2_with (first | (go_at_call 34; refine (unhide HKK _).mono ?_; rintro e x ⟨rfl, hx⟩; subst x))
  clear hy
  refine (unhide HRF _).mono ?_
  rintro e x3 ⟨fvv, rfl, hR3, hb3⟩
  obtain ⟨BY, hby⟩ := unhide HY
  have hgy := BY.lt
  have H3 := hide (And.intro (BY.below hb3 BY.lt) (And.intro (hby.trans (hb3.mono (by omega))) hR3))
  clear BY hby hR3 hb3 HY HRF
  go_wp2_with fail
  refine (unhide HKB _).mono ?_
  rintro e x4 ⟨rfl, hb4⟩
  obtain ⟨B3, hbw3, hR3⟩ := unhide H3
  have hg3 := B3.lt
  have HIF3 := hide (unhide HIF fvv x4 (hR3.below hb4 hR3.lt))
  have H4 := hide (And.intro (B3.below hb4 B3.lt) (hbw3.trans (hb4.mono (by omega))))
  clear B3 hbw3 hR3 hb4 H3 HIF HKB
  go_wp2_with fail
  refine (unhide HIF3).mono ?_
  rintro e x5 ⟨rfl, hb5⟩
  have B5 := (unhide H4).1.below hb5 (unhide H4).1.lt
  have hg4 := (unhide H4).1.lt
  have hbw5 : Below g w x5 := (unhide H4).2.trans (hb5.mono (by omega))
  clear hb5 H4 HIF3
  cases FB with
  | false =>
    have BT := blk_setRow (cells := (Rep.bare 0).cs) B5
    have HL := hide (iload_blk 34 _ BT Tryz.underlying34 rfl size_rep)
    have HZ := hide B5
    have HBN := hide built_norep
    have HO := hide (Rep.one (Rep.bare 0))
    have HF2 := hide (show Below g w (x5.setRow g (Rep.bare 0).cs) from below_setRow hbw5 (Nat.le_refl _) _)
    clear BT
    go_wp2_with (first | refine wpList_buildAs rfl 34 #[] rfl _ rfl (Rep.bare 0).cs (unhide HBN) ?_ | refine wpList_store_row rfl 34 (.tmp 4) (.tmp 21) rfl g (Rep.bare 0).cs rfl rfl 34 #[.int .i64 0, .int .i64 0, .int .i64 0, .slice none 0 0, .int .i64 0, .slice none 0 0, .string ⟨#[]⟩, .string ⟨#[]⟩] (unhide HZ) size_rep rfl (unhide HO) ?_)
    (try simp only [Exit.inBlock, Exit.then])
    refine bodyPost_ret (v := .tuple #[.agg (Rep.bare 0).cs, .int .i64 121]) (results_cell2 (p := 4) (q := 5) (ty := 34) rfl _ _ _ ⟨g, 0, none⟩ rfl _ (unhide HL)) rfl ?_
    exact ⟨Rep.bare 0, 121, rfl, fun _ => rfl, unhide HF2⟩
  | true =>
    have HX5 := hide (And.intro B5 hbw5)
    have HS := hide (unhide HFR rfl)
    have hs0 := (unhide HS).2
    clear B5 hbw5
    go_wp2_with fail
    refine (newReader_any s _).mono ?_
    rintro e x6 ⟨rfl, hR6, hb6, hs6⟩
    obtain ⟨v, hv⟩ : ∃ v, x5.heap.size = v := ⟨_, rfl⟩
    rw [hv] at hR6 hb6 hs6 ⊢
    have hg5 := (unhide HX5).1.lt
    have B6 := (unhide HX5).1.below hb6 (by omega)
    have hbw6 : Below g w x6 := (unhide HX5).2.trans (hb6.mono (by omega))
    have hA6 : At x6 v s 0 := by unfold At Rds; rw [extract_all]; exact hR6
    have HN := hide (numA x6 v s 0 1 hA6 (unhide HEW x6 hbw6) hs (by decide) (by decide) (by omega))
    rw [beN1 s 0 hs0] at HN
    have hbb := nums_bytes s 0
    obtain ⟨st, hst⟩ : ∃ st, (nums s).getD 0 0 = st := ⟨_, rfl⟩
    rw [hst] at HN hbb
    have H6 := hide (And.intro B6 hbw6)
    clear hR6 hb6 hs6 B6 hbw6 hA6 hst HX5
    go_wp2_with fail
    refine (unhide HN).mono ?_
    rintro e x7 ⟨rfl, hA7, hO7⟩
    have hgv : g < v := by omega
    have hg6 := (unhide H6).1.lt
    have B7 := (unhide H6).1.only hO7 (by omega)
    have hbw7 : Below g w x7 := (unhide H6).2.trans (hO7.below (B := g) (by omega) (fun q hq e => by omega))
    have HSS := hide (isStatus_any st)
    clear hO7 HN H6
    by_cases hst : 0 ≤ st ∧ st ≤ 13
    · rw [decide_eq_true hst] at HSS
      have HTR := hide (unhide HTK st x7 v (unhide HS).1 hA7 (unhide HEW x7 hbw7))
      have H7 := hide (And.intro B7 hbw7)
      clear B7 hbw7 hA7
      go_wp2_with (first | (go_at_call 35; refine (unhide HSS _).mono ?_; rintro e x ⟨rfl, hx⟩; subst x))
      refine (unhide HTR).mono ?_
      rintro e x8 ⟨r, B, rfl, hO8⟩
      have hg7 := (unhide H7).1.lt
      have B8 := (unhide H7).1.only hO8 (by omega)
      have hbw8 : Below g w x8 := (unhide H7).2.trans (hO8.below (B := g) (by omega) (fun q hq e => by omega))
      obtain ⟨u, hu⟩ : ∃ u, x8.heap.size = u := ⟨_, rfl⟩
      obtain ⟨xa, hxa⟩ : ∃ Z, x8.alloc (.cells #[.int .i64 0, .int .i64 0, .int .i64 0, .slice none 0 0, .int .i64 0, .slice none 0 0, .string ⟨#[]⟩, .string ⟨#[]⟩] 34) = Z := ⟨_, rfl⟩
      obtain ⟨x9, hx9⟩ : ∃ Z, xa.setRow u r.cs = Z := ⟨_, rfl⟩
      have HBA := hide (show Blk xa u #[.int .i64 0, .int .i64 0, .int .i64 0, .slice none 0 0, .int .i64 0, .slice none 0 0, .string ⟨#[]⟩, .string ⟨#[]⟩] 34 from by rw [← hxa, ← hu]; exact Blk.new _ _ _)
      have HOR := hide (Rep.one r)
      have hg8 := B8.lt
      have hba : Below u x8 xa := by rw [← hxa, ← hu]; exact (Below.refl _ _).alloc (Nat.le_refl _) _
      have oU : Only (fun j => j = u) xa x9 := by rw [← hx9]; exact only_setRow (P := fun j => j = u) u _ rfl
      have B9 : Blk x9 g #[.int .i64 0, .int .i64 0, .int .i64 0, .slice none 0 0, .int .i64 0, .slice none 0 0, .string ⟨#[]⟩, .string ⟨#[]⟩] 34 := (B8.below hba (by omega)).only oU (by omega)
      have C9 : Blk x9 u r.cs 34 := by rw [← hx9]; exact blk_setRow (unhide HBA)
      have hbw9 : Below g w x9 := (hbw8.trans (hba.mono (by omega))).trans (oU.below (B := g) (by have := hba.size; omega) (fun q hq e => by omega))
      have HRG := hide (show x9.rangeAt u 0 r.cl from blk_range C9)
      clear hO8 HTR H7 B8 hbw8 hba oU C9 HSS
      cases B with
      | false =>
        have BT := blk_setRow (cells := (Rep.bare 0).cs) B9
        have HL := hide (iload_blk 34 _ BT Tryz.underlying34 rfl size_rep)
        have HZ := hide B9
        have HBN := hide built_norep
        have HO := hide (Rep.one (Rep.bare 0))
        have HF2 := hide (show Below g w (x9.setRow g (Rep.bare 0).cs) from below_setRow hbw9 (Nat.le_refl _) _)
        clear BT
        go_wp2_with (first | refine wpList_buildAs rfl 34 #[] rfl _ rfl (Rep.bare 0).cs (unhide HBN) ?_ | refine wpList_store_row rfl 34 (.tmp 4) (.tmp 39) rfl g (Rep.bare 0).cs rfl rfl 34 #[.int .i64 0, .int .i64 0, .int .i64 0, .slice none 0 0, .int .i64 0, .slice none 0 0, .string ⟨#[]⟩, .string ⟨#[]⟩] (unhide HZ) size_rep rfl (unhide HO) ?_ | refine wpList_store_row rfl 34 (.tmp 8) (.tmp 35) rfl u r.cs rfl rfl 34 #[.int .i64 0, .int .i64 0, .int .i64 0, .slice none 0 0, .int .i64 0, .slice none 0 0, .string ⟨#[]⟩, .string ⟨#[]⟩] (unhide HBA) size_rep rfl (unhide HOR) ?_)
        (try simp only [Exit.inBlock, Exit.then])
        refine bodyPost_ret (v := .tuple #[.agg (Rep.bare 0).cs, .int .i64 122]) (results_cell2 (p := 4) (q := 5) (ty := 34) rfl _ _ _ ⟨g, 0, none⟩ rfl _ (unhide HL)) rfl ?_
        exact ⟨Rep.bare 0, 122, rfl, (fun q => (by cases q)), unhide HF2⟩
      | true =>
        have BT := blk_setRow (cells := r.cs) B9
        have HL := hide (iload_blk 34 _ BT Tryz.underlying34 rfl size_rep)
        have HZ := hide B9
        have HF2 := hide (show Below g w (x9.setRow g r.cs) from below_setRow hbw9 (Nat.le_refl _) _)
        clear BT
        go_wp2_with (first | refine wpList_store_row rfl 34 (.tmp 8) (.tmp 35) rfl u r.cs rfl rfl 34 #[.int .i64 0, .int .i64 0, .int .i64 0, .slice none 0 0, .int .i64 0, .slice none 0 0, .string ⟨#[]⟩, .string ⟨#[]⟩] (unhide HBA) size_rep rfl (unhide HOR) ?_ | refine wpList_load_mid rfl 34 (.tmp 8) rfl u 0 rfl r.cl _ (unhide HRG) Tryz.underlying34 rfl size_rep ?_ | refine wpList_store_row rfl 34 (.tmp 4) (.tmp 40) rfl g r.cs rfl rfl 34 #[.int .i64 0, .int .i64 0, .int .i64 0, .slice none 0 0, .int .i64 0, .slice none 0 0, .string ⟨#[]⟩, .string ⟨#[]⟩] (unhide HZ) size_rep rfl (unhide HOR) ?_)
        (try simp only [Exit.inBlock, Exit.then])
        refine bodyPost_ret (v := .tuple #[.agg r.cs, .int .i64 0]) (results_cell2 (p := 4) (q := 5) (ty := 34) rfl _ _ _ ⟨g, 0, none⟩ rfl _ (unhide HL)) rfl ?_
        exact ⟨r, 0, rfl, (fun q => (by cases q)), unhide HF2⟩
    · rw [decide_eq_false hst] at HSS
      have BT := blk_setRow (cells := (Rep.bare 0).cs) B7
      have HL := hide (iload_blk 34 _ BT Tryz.underlying34 rfl size_rep)
      have HZ := hide B7
      have HBN := hide built_norep
      have HO := hide (Rep.one (Rep.bare 0))
      have HF2 := hide (show Below g w (x7.setRow g (Rep.bare 0).cs) from below_setRow hbw7 (Nat.le_refl _) _)
      clear BT
      go_wp2_with (first | refine wpList_buildAs rfl 34 #[] rfl _ rfl (Rep.bare 0).cs (unhide HBN) ?_ | refine wpList_store_row rfl 34 (.tmp 4) (.tmp 29) rfl g (Rep.bare 0).cs rfl rfl 34 #[.int .i64 0, .int .i64 0, .int .i64 0, .slice none 0 0, .int .i64 0, .slice none 0 0, .string ⟨#[]⟩, .string ⟨#[]⟩] (unhide HZ) size_rep rfl (unhide HO) ?_ | (go_at_call 35; refine (unhide HSS _).mono ?_; rintro e x ⟨rfl, hx⟩; subst x))
      (try simp only [Exit.inBlock, Exit.then])
      refine bodyPost_ret (v := .tuple #[.agg (Rep.bare 0).cs, .int .i64 122]) (results_cell2 (p := 4) (q := 5) (ty := 34) rfl _ _ _ ⟨g, 0, none⟩ rfl _ (unhide HL)) rfl ?_
      exact ⟨Rep.bare 0, 122, rfl, (fun q => (by cases q)), unhide HF2⟩
end Go.Proofs.YtpjoibolhkgkhaaGreatDoor
namespace Go.Proofs.YtpjoibolhkgkhaaGreatDoor
open Go.RowKit
set_option maxRecDepth 100000
theorem le4_len (c : Nat) : (le4 c).length = 4 := rfl
theorem szQ_le (k : Int) : szF (rqF k) ≤ 1024 := by
  have h1 := szF_le (rqF k) (fun f hf => (rqF_all k f hf).isF)
  have h2 := rqF_len k
  omega
theorem szP_le (k : Int) : szF (rpF k) ≤ 1024 := by
  have h1 := szF_le (rpF k) (fun f hf => (rpF_all k f hf).isF)
  have h2 := rpF_len k
  omega
/-- a frame in numbers -/
theorem frm_nums (E : List Int) (hE : Bytes E) (L : List Int) : nums (strOfNums E ++ strOfNums (le4 (chkN L))) = E ++ le4 (chkN L) := by
  rw [nums_app, nums_strOfNums _ hE, nums_strOfNums _ (le4_bytes _ (chkN_lt _))]
theorem frm_size (E L : List Int) : (strOfNums E ++ strOfNums (le4 (chkN L))).size = E.length + 4 := by
  rw [ByteArray.size_append, strOfNums_size, strOfNums_size]; rfl
theorem lqL_full (r : Req) (h : lqB r = true) : (lqL r).length = szF (rqF r.kd) := by
  unfold lqB at h
  unfold lqL
  cases e : layQ (rqF r.kd) r with
  | none => rw [e] at h; exact absurd (show false = true from h) (by decide)
  | some x => exact (layQ_len _ (rqF_all r.kd) r x e).1
theorem lyL_full (k : Int) (r : Rep) (V Pl : List Int) (h : lyB k r V Pl = true) : (lyL k r V Pl).length = szF (rpF k) := by
  unfold lyB at h
  unfold lyL
  by_cases q : fullP k r.st = true
  · rw [if_pos q] at h ⊢
    unfold lgB at h
    unfold lgL
    cases e : layG V Pl (rpF k) r with
    | none => rw [e] at h; exact absurd (show false = true from h) (by decide)
    | some x => exact (layG_len V Pl _ (rpF_all k) r x e).1
  · rw [if_neg q, List.length_replicate]
theorem encQ_form (r : Req) (hk : 1 ≤ r.kd ∧ r.kd ≤ 12) (h : lqB r = true) : errQ r = 0 ∧ nums (encQ r) = eqL r ++ le4 (chkN (nums ⟨#[]⟩ ++ eqL r)) ∧ (encQ r).size = 5 + szF (rqF r.kd) ∧ (nums (encQ r)).getD 0 0 = r.kd := by
  have e1 : encQ r = strOfNums (eqL r) ++ strOfNums (le4 (chkN (eqL r))) := by rw [encQ, if_pos hk, if_pos h]
  have e2 : eqL r = r.kd :: lqL r := by rw [eqL, numB1 _ (by omega) (by omega)]; rfl
  have e3 : nums (encQ r) = eqL r ++ le4 (chkN (eqL r)) := by rw [e1, frm_nums _ (eqL_len r).2]
  refine ⟨by rw [errQ, if_pos hk, if_pos h], e3, ?_, ?_⟩
  · rw [e1, frm_size, e2, List.length_cons, lqL_full r h]; omega
  · rw [e3, e2]; rfl
theorem decE_ck (s : ByteArray) (h : ckB ⟨#[]⟩ s = false) : decE s ≠ 0 := by
  unfold decE
  by_cases q : kdO s
  · rw [if_pos q, if_neg (by unfold frB; split <;> simp [h])]; decide
  · rw [if_neg q]; decide
theorem decE_cut (s : ByteArray) (c : Nat) (hc : c < s.size) (k : Int) (hk : (nums s).getD 0 0 = k) (hz : s.size = 5 + szF (rqF k)) : decE (s.extract 0 c) ≠ 0 := by
  have hs : (s.extract 0 c).size = c := by rw [ByteArray.size_extract]; omega
  unfold decE
  by_cases q : kdO (s.extract 0 c)
  · have hp : 0 < c := by have := q.1; omega
    have e : kdS (s.extract 0 c) = k := by
      rw [← hk, kdS, nums_extract, List.drop_zero]
      have hl := nums_len s
      cases hn : nums s with
      | nil => rw [hn] at hl; simp at hl; omega
      | cons a l =>
        cases c with
        | zero => omega
        | succ c => rfl
    rw [if_pos q, e, if_neg (by unfold frB; rw [if_neg (by omega)]; decide)]; decide
  · rw [if_neg q]; decide
theorem decE_more (s m : ByteArray) (hm : 0 < m.size) (k : Int) (hk1 : 1 ≤ k ∧ k ≤ 12) (hk : (nums s).getD 0 0 = k) (hz : s.size = 5 + szF (rqF k)) : decE (s ++ m) = 121 := by
  have hs : (s ++ m).size = s.size + m.size := ByteArray.size_append
  have e : kdS (s ++ m) = k := by
    rw [← hk, kdS, nums_app]
    have hl := nums_len s
    cases hn : nums s with
    | nil => rw [hn] at hl; simp at hl; omega
    | cons a l => rfl
  have q : kdO (s ++ m) := ⟨by omega, by rw [e]; exact hk1.1, by rw [e]; exact hk1.2⟩
  unfold decE
  rw [if_pos q, e, if_neg (by unfold frB; rw [if_neg (by omega)]; decide)]
theorem frB_size (s : ByteArray) (fs : List Fld) (ah : ByteArray) (h : s.size ≠ 5 + szF fs) : frB s fs ah = false := by unfold frB; rw [if_neg h]
theorem frB_ck (s : ByteArray) (fs : List Fld) (ah : ByteArray) (h : ckB ah s = false) : frB s fs ah = false := by unfold frB; split <;> simp [h]
theorem kB_nums (k : Nat) (hk : k ≤ 12) : nums (strOfNums [(k : Int)]) = [(k : Int)] := nums_strOfNums _ (fun j => by
  cases j with
  | zero => simp; omega
  | succ j => simp)
theorem eyL_form (k : Nat) (r : Rep) (V Pl : List Int) (h : lyB (k : Int) r V Pl = true) : (eyL (k : Int) r V Pl).length = 1 + szF (rpF (k : Int)) ∧ Bytes (eyL (k : Int) r V Pl) := by
  refine ⟨?_, Bytes.app (numB_bytes _ _) (lyL_len _ r V Pl).2⟩
  rw [eyL, List.length_append, numB_len, lyL_full _ _ _ _ h]
end Go.Proofs.YtpjoibolhkgkhaaGreatDoor
namespace Go.Proofs.YtpjoibolhkgkhaaGreatDoor
open Go.RowKit
set_option maxRecDepth 100000
theorem nums_cut (s : ByteArray) (i b : Nat) : nums (s.extract i (i + b)) = ((nums s).drop i).take b := by
  rw [nums_extract, List.drop_take]
  congr 1
  omega
theorem be1 (n : Int) (h0 : 0 ≤ n) (h : n ≤ 255) : beN (numB n 1) = n := by
  simp [numB, List.range, List.range.loop, beN]; omega
theorem be2 (n : Int) (h0 : 0 ≤ n) (h : n ≤ 65535) : beN (numB n 2) = n := by
  simp [numB, List.range, List.range.loop, beN]; omega
theorem be4 (n : Int) (h0 : 0 ≤ n) (h : n ≤ 4294967295) : beN (numB n 4) = n := by
  simp [numB, List.range, List.range.loop, beN]; omega
theorem cut_txt (s t : ByteArray) (i b : Nat) (h : ((nums s).drop i).take b = nums t) : s.extract i (i + b) = t := nums_inj (by rw [nums_cut, h])
/-- a field's part, taken off what was laid down, is what it was -/
theorem prF_lay {f : Fld} (hf : IsQ f) (r : Req) (s : ByteArray) (i : Nat) (hk : okF f (exq f r Prt.nil).2 = true) (h : ((nums s).drop i).take f.b = byF f (exq f r Prt.nil).2) : prF f s i = (exq f r Prt.nil).2 ∧ okT f (prF f s i) = true := by
  rcases hf with rfl | rfl | rfl | rfl | rfl | rfl | rfl | rfl | rfl
  · have hk' : (1 : Int) ≤ r.te ∧ r.te ≤ 8 := of_decide_eq_true hk
    have h' : ((nums s).drop i).take 1 = numB r.te 1 := h
    have e : prF fTen s i = Prt.num r.te := by show Prt.num (beN (((nums s).drop i).take 1)) = _; rw [h', be1 _ (by omega) (by omega)]
    exact ⟨e, by rw [e]; exact hk⟩
  · have hk' : (0 : Int) ≤ r.qu ∧ r.qu ≤ 65535 := of_decide_eq_true hk
    have h' : ((nums s).drop i).take 2 = numB r.qu 2 := h
    have e : prF fQuo s i = Prt.num r.qu := by show Prt.num (beN (((nums s).drop i).take 2)) = _; rw [h', be2 _ (by omega) (by omega)]
    exact ⟨e, by rw [e]; exact hk⟩
  · have hk' : (1 : Int) ≤ r.vo ∧ r.vo ≤ 99 := of_decide_eq_true hk
    have h' : ((nums s).drop i).take 1 = numB r.vo 1 := h
    have e : prF fVol s i = Prt.num r.vo := by show Prt.num (beN (((nums s).drop i).take 1)) = _; rw [h', be1 _ (by omega) (by omega)]
    exact ⟨e, by rw [e]; exact hk⟩
  · have hk' : (0 : Int) ≤ r.bl ∧ r.bl ≤ 255 := of_decide_eq_true hk
    have h' : ((nums s).drop i).take 1 = numB r.bl 1 := h
    have e : prF fBlo s i = Prt.num r.bl := by show Prt.num (beN (((nums s).drop i).take 1)) = _; rw [h', be1 _ (by omega) (by omega)]
    exact ⟨e, by rw [e]; exact hk⟩
  · have hk' : (0 : Int) ≤ r.no ∧ r.no ≤ 4294967295 := of_decide_eq_true hk
    have h' : ((nums s).drop i).take 4 = numB r.no 4 := h
    have e : prF fNon s i = Prt.num r.no := by show Prt.num (beN (((nums s).drop i).take 4)) = _; rw [h', be4 _ (by omega) (by omega)]
    exact ⟨e, by rw [e]; exact hk⟩
  · exact ⟨congrArg Prt.txt (cut_txt s r.di i 32 h), rfl⟩
  · exact ⟨congrArg Prt.txt (cut_txt s r.wr i 48 h), rfl⟩
  · exact ⟨congrArg Prt.txt (cut_txt s r.sa i 8 h), rfl⟩
  · exact ⟨congrArg Prt.txt (cut_txt s r.da i 256 h), rfl⟩
def mrgQ : List Fld → Req → Req → Req
  | [], _, acc => acc
  | f :: fs, cur, acc => mrgQ fs (exq f cur Prt.nil).1 (exq f acc (exq f cur Prt.nil).2).1
def rstQ : List Fld → Req → Req
  | [], cur => cur
  | f :: fs, cur => rstQ fs (exq f cur Prt.nil).1
theorem takeQ_lay : ∀ (fs : List Fld), (∀ f ∈ fs, IsQ f) → ∀ (cur acc : Req) (x : Req × List Int) (s : ByteArray) (i : Nat), layQ fs cur = some x → ((nums s).drop i).take (szF fs) = x.2 → takeQ fs acc s i = some (mrgQ fs cur acc) ∧ x.1 = rstQ fs cur
  | [], _, cur, acc, x, s, i, h, _ => by
    simp only [layQ, Option.some.injEq] at h
    subst h
    exact ⟨rfl, rfl⟩
  | f :: fs, hF, cur, acc, x, s, i, h, hb => by
    rw [layQ] at h
    by_cases hok : okF f (exq f cur Prt.nil).2 = true
    · rw [if_pos hok] at h
      cases hq : layQ fs (exq f cur Prt.nil).1 with
      | none => rw [hq] at h; simp at h
      | some y =>
        rw [hq] at h
        simp only [Option.map_some, Option.some.injEq] at h
        subst h
        have hf := hF f (by simp)
        have hl := byF_len hf hok
        have hb' : ((nums s).drop i).take (f.b + szF fs) = byF f (exq f cur Prt.nil).2 ++ y.2 := hb
        have hA : ((nums s).drop i).take f.b = byF f (exq f cur Prt.nil).2 := by
          have := congrArg (List.take f.b) hb'
          rw [List.take_take, Nat.min_eq_left (by omega), List.take_left' hl] at this
          exact this
        have hB : ((nums s).drop (i + f.b)).take (szF fs) = y.2 := by
          have := congrArg (List.drop f.b) hb'
          rw [List.drop_take, List.drop_left' hl, List.drop_drop] at this
          rw [← this]
          congr 1
          omega
        obtain ⟨e1, e2⟩ := prF_lay hf cur s i hok hA
        obtain ⟨t1, t2⟩ := takeQ_lay fs (fun g hg => hF g (by simp [hg])) (exq f cur Prt.nil).1 (exq f acc (exq f cur Prt.nil).2).1 y s (i + f.b) hq hB
        refine ⟨?_, t2⟩
        rw [takeQ, if_pos e2, e1]
        exact t1
    · rw [if_neg hok] at h; simp at h
theorem toList_nil {a : ByteArray} (h : a.toList = []) : a = ⟨#[]⟩ := by
  rw [ByteArray.toList_eq] at h
  exact Go.WideShapes.bytes_inj h
theorem toNil {a : ByteArray} : a.toList = [] ↔ ⟨#[]⟩ = a := ⟨fun h => (toList_nil h).symm, fun h => by subst h; rw [ByteArray.toList_eq]⟩
theorem eq0c {x : Int} : x = 0 ↔ 0 = x := ⟨Eq.symm, Eq.symm⟩
theorem mrg_self (fs : List Fld) (r : Req) (hf : fs = [fTen, fQuo] ∨ fs = [fTen] ∨ fs = [fVol] ∨ fs = [fVol, fBlo, fDig, fWra] ∨ fs = [fNon, fSam] ∨ fs = [fVol, fBlo, fWra, fDat] ∨ fs = [fVol, fBlo] ∨ fs = []) (h : eqQ (rstQ fs r) (Req.bare r.kd) = true) : mrgQ fs r (Req.bare r.kd) = r := by
  obtain ⟨kd, te, qu, vo, bl, no, di, wr, sa, da⟩ := r
  rcases hf with rfl | rfl | rfl | rfl | rfl | rfl | rfl | rfl
  all_goals simp only [rstQ, exq, fTen, fQuo, fVol, fBlo, fDig, fWra, fNon, fSam, fDat, eqQ, Req.bare, Prt.nil, Prt.num, Prt.txt, mrgQ] at h ⊢
  all_goals simp at h ⊢
  all_goals (simp only [toNil, eq0c] at h; exact h)
theorem rqF_one (k : Int) : rqF k = [fTen, fQuo] ∨ rqF k = [fTen] ∨ rqF k = [fVol] ∨ rqF k = [fVol, fBlo, fDig, fWra] ∨ rqF k = [fNon, fSam] ∨ rqF k = [fVol, fBlo, fWra, fDat] ∨ rqF k = [fVol, fBlo] ∨ rqF k = [] := by
  unfold rqF
  (repeat' split) <;> simp
theorem ckB_true (ah s : ByteArray) (E : List Int) (hs : nums s = E ++ le4 (chkN (nums ah ++ E))) : ckB ah s = true := by
  have hz : s.size = E.length + 4 := by rw [← nums_len, hs, List.length_append, le4_len]
  have e1 : nums (ah ++ s.extract 0 (s.size - 4)) = nums ah ++ E := by
    rw [nums_app, nums_extract, List.drop_zero, hs, hz, Nat.add_sub_cancel, List.take_left' rfl]
  have e2 : s.extract (s.size - 4) s.size = strOfNums (le4 (chkN (nums ah ++ E))) := nums_inj (by
    rw [nums_tail, nums_strOfNums _ (le4_bytes _ (chkN_lt _)), hs, hz, Nat.add_sub_cancel, List.drop_left' rfl])
  unfold ckB
  rw [e1, e2]
  exact beq_self_eq_true _
/-- what is read of a request's frame is that request -/
theorem dec_enc (r : Req) (hk : 1 ≤ r.kd ∧ r.kd ≤ 12) (h : lqB r = true) : decR (encQ r) = r ∧ decE (encQ r) = 0 := by
  obtain ⟨_, f2, f3, f4⟩ := encQ_form r hk h
  have e2 : eqL r = r.kd :: lqL r := by rw [eqL, numB1 _ (by omega) (by omega)]; rfl
  have hl := lqL_full r h
  have q : kdO (encQ r) := ⟨by omega, by rw [kdS, f4]; exact hk.1, by rw [kdS, f4]; exact hk.2⟩
  have hf : frB (encQ r) (rqF (kdS (encQ r))) ⟨#[]⟩ = true := by
    rw [kdS, f4, frB, if_pos f3]
    exact ckB_true _ _ _ f2
  have hT : takeQ (rqF r.kd) (Req.bare r.kd) (encQ r) 1 = some r := by
    unfold lqB at h
    cases e : layQ (rqF r.kd) r with
    | none => rw [e] at h; exact absurd (show false = true from h) (by decide)
    | some x =>
      rw [e] at h
      have hx : lqL r = x.2 := by rw [lqL, e]
      obtain ⟨t1, t2⟩ := takeQ_lay (rqF r.kd) (rqF_all r.kd) r (Req.bare r.kd) x (encQ r) 1 e (by
        rw [f2, e2, List.cons_append, List.drop_succ_cons, List.drop_zero, ← hx, List.take_left' hl])
      rw [t1, mrg_self _ r (rqF_one r.kd) (by rw [← t2]; exact h)]
  have hB : tqB (kdS (encQ r)) (encQ r) = true := by rw [kdS, f4, tqB, hT]; rfl
  have hR : tqR (kdS (encQ r)) (encQ r) = r := by rw [kdS, f4, tqR, hT]
  exact ⟨by rw [decR, if_pos q, if_pos hf, if_pos hB, hR], by rw [decE, if_pos q, if_pos hf, if_pos hB]⟩
end Go.Proofs.YtpjoibolhkgkhaaGreatDoor
namespace Go.Proofs.YtpjoibolhkgkhaaGreatDoor
open Go.RowKit
set_option maxRecDepth 100000
/-- what a reply's frame says -/
structure PR where
  qu : Int
  ch : Int
  no : Int
  wr : ByteArray
  da : ByteArray
  V : List Int
  Pl : List Int
def PR.bare : PR := ⟨0, 0, 0, ⟨#[]⟩, ⟨#[]⟩, [], []⟩
/-- may a field be taken here? and what is said then -/
def okP (f : Fld) (s : ByteArray) (i : Nat) : Bool := if f.k = 0 then decide ((f.lo : Int) ≤ beN (tkB s i f.b) ∧ beN (tkB s i f.b) ≤ (f.hi : Int)) else if f.k = 3 then vtB s i else true
def upP (f : Fld) (a : PR) (s : ByteArray) (i : Nat) : PR :=
  if f.ty = 122 then { a with qu := beN (tkB s i f.b) }
  else if f.ty = 123 then { a with ch := beN (tkB s i f.b) }
  else if f.ty = 136 then { a with V := tkB s (i + 1) (vtN s i) }
  else if f.ty = 126 then { a with no := beN (tkB s i f.b) }
  else if f.ty = 135 then { a with Pl := tkB s i 8 }
  else if f.ty = 131 then { a with wr := s.extract i (i + f.b) }
  else { a with da := s.extract i (i + f.b) }
def takeP : List Fld → PR → ByteArray → Nat → Option PR
  | [], a, _, _ => some a
  | f :: fs, a, s, i => if okP f s i = true then takeP fs (upP f a s i) s (i + f.b) else none
/-- numbers in a row of one's own -/
def OwnL (w : World) (N : Nat) (p : Option Addr) (m c : Nat) (V : List Int) : Prop := m = V.length ∧ w.ownsRow N 3 1 (.slice p m c) m (V.map (Value.int .i64))
theorem OwnL.nil (w : World) (N : Nat) : OwnL w N none 0 0 [] := ⟨rfl, World.ownsRow_nil _ _ _ _⟩
theorem OwnL.only {w w' : World} {P : Nat → Prop} {N : Nat} {p : Option Addr} {m c : Nat} {V : List Int} (h : OwnL w N p m c V) (ho : Only P w w') (hp : ∀ k, N ≤ k → k < w.heap.size → ¬ P k) : OwnL w' N p m c V := by
  refine ⟨h.1, own_onlyW h.2 ho (fun k hk => ?_)⟩
  rcases h.2.2 with ⟨h1, h0⟩ | ⟨g, cap, cur, h1, hb, hg, hn, hc, hs, hx⟩
  · rw [h1] at hk; simp [Value.ownBlock] at hk
  · rw [h1] at hk
    have e : k = g := by simpa [Value.ownBlock, eq_comm] using hk
    subst e
    exact hp k hb (show Blk w k cur 3 from hg).lt
theorem OwnL.below {w w' : World} {B N : Nat} {p : Option Addr} {m c : Nat} {V : List Int} (h : OwnL w N p m c V) (hb : Below B w w') (hB : w.heap.size ≤ B) : OwnL w' N p m c V := h.only (Only.of_below (P := fun _ => False) (hb.mono hB)) (fun _ _ _ q => q)
theorem OwnL.base {w : World} {N N' : Nat} {p : Option Addr} {m c : Nat} {V : List Int} (h : OwnL w N p m c V) (hb : N' ≤ N) : OwnL w N' p m c V := ⟨h.1, own_baseW h.2 hb⟩
theorem OwnL.lst {w : World} {N : Nat} {p : Option Addr} {m c : Nat} {V : List Int} (h : OwnL w N p m c V) : Lst w w.heap.size p V := own_lstN h.1.symm h.2
/-- a reply in memory that says this -/
structure RM (st : Int) (N : Nat) (r : Rep) (a : PR) (w : World) : Prop where
  st : r.st = st
  qu : r.qu = a.qu
  ch : r.ch = a.ch
  no : r.no = a.no
  wr : r.wr = a.wr
  da : r.da = a.da
  v : OwnL w N r.vp r.vm r.vc a.V
  p : OwnL w N r.pp r.pm r.pc a.Pl
theorem RM.bare (st : Int) (N : Nat) (w : World) : RM st N (Rep.bare st) PR.bare w := ⟨rfl, rfl, rfl, rfl, rfl, rfl, OwnL.nil _ _, OwnL.nil _ _⟩
theorem RM.only {st : Int} {w w' : World} {P : Nat → Prop} {N : Nat} {r : Rep} {a : PR} (h : RM st N r a w) (ho : Only P w w') (hp : ∀ k, N ≤ k → k < w.heap.size → ¬ P k) : RM st N r a w' := ⟨h.st, h.qu, h.ch, h.no, h.wr, h.da, h.v.only ho hp, h.p.only ho hp⟩
theorem RM.below {st : Int} {w w' : World} {B : Nat} {N : Nat} {r : Rep} {a : PR} (h : RM st N r a w) (hb : Below B w w') (hB : w.heap.size ≤ B) : RM st N r a w' := ⟨h.st, h.qu, h.ch, h.no, h.wr, h.da, h.v.below hb hB, h.p.below hb hB⟩
theorem RM.base {st : Int} {w : World} {N N' : Nat} {r : Rep} {a : PR} (h : RM st N r a w) (hb : N' ≤ N) : RM st N' r a w := ⟨h.st, h.qu, h.ch, h.no, h.wr, h.da, h.v.base hb, h.p.base hb⟩
/-- what a part is that was taken -/
def PM (f : Fld) (p : Prt) (s : ByteArray) (i N : Nat) (w : World) : Prop := if f.k = 0 then p.n = beN (tkB s i f.b) else if f.k = 1 then p.t = s.extract i (i + f.b) else if f.k = 2 then OwnL w N p.p p.m p.c (tkB s i 8) else OwnL w N p.p p.m p.c (tkB s (i + 1) (vtN s i))
theorem RM.step {st : Int} {N M : Nat} {r : Rep} {a : PR} {w : World} (h : RM st N r a w) {f : Fld} (hf : IsP f) {p : Prt} {s : ByteArray} {i : Nat} (hp : PM f p s i M w) (hM : N ≤ M) : RM st N (exr f r p).1 (upP f a s i) w := by
  rcases hf with rfl | rfl | rfl | rfl | rfl | rfl | rfl
  · exact ⟨h.st, hp, h.ch, h.no, h.wr, h.da, h.v, h.p⟩
  · exact ⟨h.st, h.qu, hp, h.no, h.wr, h.da, h.v, h.p⟩
  · exact ⟨h.st, h.qu, h.ch, h.no, h.wr, h.da, OwnL.base hp hM, h.p⟩
  · exact ⟨h.st, h.qu, h.ch, hp, h.wr, h.da, h.v, h.p⟩
  · exact ⟨h.st, h.qu, h.ch, h.no, h.wr, h.da, h.v, OwnL.base hp hM⟩
  · exact ⟨h.st, h.qu, h.ch, h.no, hp, h.da, h.v, h.p⟩
  · exact ⟨h.st, h.qu, h.ch, h.no, h.wr, hp, h.v, h.p⟩
/-- what a field's take answers -/
def TkP (f : Fld) (b : Nat) (s : ByteArray) (i m N : Nat) (w : World) (e : Ending) (w' : World) : Prop := ∃ (P : Prt) (B : Bool), e = .returned (.tuple #[.agg P.cs, .bool B]) ∧ B = okP f s i ∧ (B = true → At w' b s (i + m)) ∧ Only (fun j => j = b) w w' ∧ (B = true → PM f P s i N w')
/-- what takeReply answers -/
def TrP (O : Option PR) (st : Int) (N b : Nat) (w : World) (e : Ending) (w' : World) : Prop := ∃ (r : Rep) (B : Bool), e = .returned (.tuple #[.agg r.cs, .bool B]) ∧ Only (fun j => j = b) w w' ∧ ((O = none ∧ B = false ∧ r = Rep.bare 0) ∨ ∃ a, O = some a ∧ B = true ∧ RM st N r a w')
theorem TrP.no {O : Option PR} {st : Int} {N b : Nat} {w w' : World} (h : none = O) (ho : Only (fun j => j = b) w w') : TrP O st N b w (.returned (.tuple #[.agg (Rep.bare 0).cs, .bool false])) w' := ⟨Rep.bare 0, false, rfl, ho, .inl ⟨h.symm, rfl, rfl⟩⟩
theorem TrP.yes {O : Option PR} {st : Int} {N b : Nat} {w w' : World} {r : Rep} {a : PR} (h : some a = O) (ho : Only (fun j => j = b) w w') (hm : RM st N r a w') : TrP O st N b w (.returned (.tuple #[.agg r.cs, .bool true])) w' := ⟨r, true, rfl, ho, .inr ⟨a, h.symm, rfl, hm⟩⟩
end Go.Proofs.YtpjoibolhkgkhaaGreatDoor
namespace Go.Proofs.YtpjoibolhkgkhaaGreatDoor
open Go.RowKit
set_option maxRecDepth 100000
theorem out1_byte : ∀ (L : List Int), (∀ k, k < L.length → 0 ≤ L.getD k 0 ∧ L.getD k 0 ≤ 255) → outN 1 L = L
  | [], _ => rfl
  | z :: L, h => by
    have h0 := h 0 (by simp)
    have e : outN 1 (z :: L) = numB z 1 ++ outN 1 L := rfl
    rw [e, numB1 z h0.1 h0.2, out1_byte L (fun k hk => by have := h (k + 1) (by simp; omega); simpa using this)]
    rfl
/-- a field's part of a reply, put into what is said -/
def setP (f : Fld) (a : PR) (r : Rep) (V Pl : List Int) : PR :=
  if f.ty = 122 then { a with qu := r.qu }
  else if f.ty = 123 then { a with ch := r.ch }
  else if f.ty = 136 then { a with V := V }
  else if f.ty = 126 then { a with no := r.no }
  else if f.ty = 135 then { a with Pl := Pl }
  else if f.ty = 131 then { a with wr := r.wr }
  else { a with da := r.da }
theorem vo_lay (V : List Int) (s : ByteArray) (i : Nat) (hk : voB V = true) (h : ((nums s).drop i).take 9 = voL V) : vtB s i = true ∧ tkB s (i + 1) (vtN s i) = V := by
  rw [voB, Bool.and_eq_true] at hk
  have h8 : V.length ≤ 8 := of_decide_eq_true hk.1
  have hA := of_decide_eq_true (show decide (∀ k, k < V.length → (1 ≤ V.getD k 0 ∧ V.getD k 0 ≤ 99) ∧ (0 < k → V.getD (k - 1) 0 < V.getD k 0)) = true from hk.2)
  have e : voL V = (V.length : Int) :: (V ++ List.replicate (8 - V.length) 0) := by
    rw [voL, numB1 _ (by omega) (by omega), out1_byte V (fun k hk => by have := (hA k hk).1; omega)]
    rfl
  rw [e] at h
  have hd : (nums s).drop i = (nums s).getD i 0 :: (nums s).drop (i + 1) := by
    have hl : i < (nums s).length := by
      have := congrArg List.length h
      rw [List.length_take, List.length_drop, List.length_cons] at this
      omega
    rw [List.getD_eq_getElem?_getD, List.getElem?_eq_getElem hl, Option.getD_some]
    exact (List.getElem_cons_drop hl).symm
  rw [hd, List.take_succ_cons] at h
  injection h with h1 h2
  have hN : vtN s i = V.length := by rw [vtN, h1]; rfl
  have hT : tkB s (i + 1) V.length = V := by
    have := congrArg (List.take V.length) h2
    rw [List.take_take, Nat.min_eq_left h8, List.take_left' rfl] at this
    exact this
  have hZ : s.extract (i + 1 + V.length) (i + 9) = strOfNums (List.replicate (8 - V.length) 0) := nums_inj (by
    rw [show i + 9 = i + 1 + V.length + (8 - V.length) by omega, nums_cut, rep0_nums]
    have := congrArg (List.drop V.length) h2
    rw [List.drop_take, List.drop_left' rfl, List.drop_drop] at this
    exact this)
  refine ⟨?_, by rw [hN]; exact hT⟩
  rw [vtB, hN, hT, hZ, decide_eq_true h8, hk.2, Bool.and_true, Bool.true_and]
  exact beq_self_eq_true _
theorem upP_lay {f : Fld} (hf : IsP f) (r : Rep) (V Pl : List Int) (s : ByteArray) (i : Nat) (a : PR) (hk : okG f (exr f r Prt.nil).2 V Pl = true) (h : ((nums s).drop i).take f.b = byG f (exr f r Prt.nil).2 V Pl) : okP f s i = true ∧ upP f a s i = setP f a r V Pl := by
  rcases hf with rfl | rfl | rfl | rfl | rfl | rfl | rfl
  · have hk' : (0 : Int) ≤ r.qu ∧ r.qu ≤ 65535 := of_decide_eq_true hk
    have e : beN (tkB s i 2) = r.qu := by rw [show tkB s i 2 = numB r.qu 2 from h, be2 _ hk'.1 hk'.2]
    exact ⟨(congrArg (fun n : Int => decide (((0 : Nat) : Int) ≤ n ∧ n ≤ ((65535 : Nat) : Int))) e).trans (decide_eq_true hk'), congrArg (fun n => ({ a with qu := n } : PR)) e⟩
  · have hk' : (0 : Int) ≤ r.ch ∧ r.ch ≤ 65535 := of_decide_eq_true hk
    have e : beN (tkB s i 2) = r.ch := by rw [show tkB s i 2 = numB r.ch 2 from h, be2 _ hk'.1 hk'.2]
    exact ⟨(congrArg (fun n : Int => decide (((0 : Nat) : Int) ≤ n ∧ n ≤ ((65535 : Nat) : Int))) e).trans (decide_eq_true hk'), congrArg (fun n => ({ a with ch := n } : PR)) e⟩
  · obtain ⟨e1, e2⟩ := vo_lay V s i hk h
    exact ⟨e1, congrArg (fun n => ({ a with V := n } : PR)) e2⟩
  · have hk' : (0 : Int) ≤ r.no ∧ r.no ≤ 4294967295 := of_decide_eq_true hk
    have e : beN (tkB s i 4) = r.no := by rw [show tkB s i 4 = numB r.no 4 from h, be4 _ hk'.1 hk'.2]
    exact ⟨(congrArg (fun n : Int => decide (((0 : Nat) : Int) ≤ n ∧ n ≤ ((4294967295 : Nat) : Int))) e).trans (decide_eq_true hk'), congrArg (fun n => ({ a with no := n } : PR)) e⟩
  · have hk' := of_decide_eq_true (show decide (Pl.length = 8 ∧ ∀ k, k < Pl.length → 0 ≤ Pl.getD k 0 ∧ Pl.getD k 0 ≤ 255) = true from hk)
    have e : tkB s i 8 = Pl := by rw [show tkB s i 8 = outN 1 Pl from h, out1_byte Pl hk'.2]
    exact ⟨rfl, congrArg (fun n => ({ a with Pl := n } : PR)) e⟩
  · exact ⟨rfl, congrArg (fun n => ({ a with wr := n } : PR)) (cut_txt s r.wr i 48 h)⟩
  · exact ⟨rfl, congrArg (fun n => ({ a with da := n } : PR)) (cut_txt s r.da i 256 h)⟩
def mrgP (V Pl : List Int) : List Fld → Rep → PR → PR
  | [], _, a => a
  | f :: fs, cur, a => mrgP V Pl fs (exr f cur Prt.nil).1 (setP f a cur V Pl)
def rstP : List Fld → Rep → Rep
  | [], cur => cur
  | f :: fs, cur => rstP fs (exr f cur Prt.nil).1
theorem takeP_lay (V Pl : List Int) : ∀ (fs : List Fld), (∀ f ∈ fs, IsP f) → ∀ (cur : Rep) (a : PR) (x : Rep × List Int) (s : ByteArray) (i : Nat), layG V Pl fs cur = some x → ((nums s).drop i).take (szF fs) = x.2 → takeP fs a s i = some (mrgP V Pl fs cur a) ∧ x.1 = rstP fs cur
  | [], _, cur, a, x, s, i, h, _ => by
    simp only [layG, Option.some.injEq] at h
    subst h
    exact ⟨rfl, rfl⟩
  | f :: fs, hF, cur, a, x, s, i, h, hb => by
    rw [layG] at h
    by_cases hok : okG f (exr f cur Prt.nil).2 V Pl = true
    · rw [if_pos hok] at h
      cases hq : layG V Pl fs (exr f cur Prt.nil).1 with
      | none => rw [hq] at h; simp at h
      | some y =>
        rw [hq] at h
        simp only [Option.map_some, Option.some.injEq] at h
        subst h
        have hf := hF f (by simp)
        have hl := byG_len hf hok
        have hb' : ((nums s).drop i).take (f.b + szF fs) = byG f (exr f cur Prt.nil).2 V Pl ++ y.2 := hb
        have hA : ((nums s).drop i).take f.b = byG f (exr f cur Prt.nil).2 V Pl := by
          have := congrArg (List.take f.b) hb'
          rw [List.take_take, Nat.min_eq_left (by omega), List.take_left' hl] at this
          exact this
        have hB : ((nums s).drop (i + f.b)).take (szF fs) = y.2 := by
          have := congrArg (List.drop f.b) hb'
          rw [List.drop_take, List.drop_left' hl, List.drop_drop] at this
          rw [← this]
          congr 1
          omega
        obtain ⟨e1, e2⟩ := upP_lay hf cur V Pl s i a hok hA
        obtain ⟨t1, t2⟩ := takeP_lay V Pl fs (fun g hg => hF g (by simp [hg])) (exr f cur Prt.nil).1 (setP f a cur V Pl) y s (i + f.b) hq hB
        refine ⟨?_, t2⟩
        rw [takeP, if_pos e1, e2]
        exact t1
    · rw [if_neg hok] at h; simp at h
def prOf (r : Rep) (V Pl : List Int) : PR := ⟨r.qu, r.ch, r.no, r.wr, r.da, V, Pl⟩
theorem len0 {V : List Int} {n : Nat} (h : V.length = n) (h0 : n = 0) : V = [] := List.eq_nil_of_length_eq_zero (by omega)
theorem mrgP_self (k : Int) (r : Rep) (V Pl : List Int) (hv : V.length = r.vm) (hp : Pl.length = r.pm) (h : bareP (rstP (rpF k) r) = true) : mrgP V Pl (rpF k) r PR.bare = prOf r V Pl := by
  have hf : rpF k = [fQuo, fCha, fVos] ∨ rpF k = [fVos] ∨ rpF k = [fQuo, fCha] ∨ rpF k = [fNon, fPla] ∨ rpF k = [fWra, fDat] ∨ rpF k = [] := by
    unfold rpF
    (repeat' split) <;> simp
  generalize rpF k = fs at *
  obtain ⟨st, qu, ch, vp, vm, vc, no, pp, pm, pc, wr, da⟩ := r
  have h' := of_decide_eq_true h
  simp only at hv hp
  rcases hf with rfl | rfl | rfl | rfl | rfl | rfl
  all_goals simp only [rstP, exr, fQuo, fCha, fVos, fNon, fPla, fWra, fDat, Prt.nil, Prt.num, Prt.txt] at h'
  all_goals (try simp at h')
  all_goals simp only [mrgP, setP, exr, fQuo, fCha, fVos, fNon, fPla, fWra, fDat, Prt.nil, prOf, PR.bare]
  all_goals (try simp)
  all_goals (clear h; simp_all)
/-- what a right frame of a reply says -/
theorem rep_good (k : Nat) (hk : k ≤ 12) (r : Rep) (V Pl : List Int) (hst : 0 ≤ r.st ∧ r.st ≤ 13) (hv : V.length = r.vm) (hp : Pl.length = r.pm) (hB : lyB (k : Int) r V Pl = true) (Y : ByteArray) (hY : nums Y = eyL (k : Int) r V Pl ++ le4 (chkN ((k : Int) :: eyL (k : Int) r V Pl))) :
    frB Y (rpF (k : Int)) (strOfNums [(k : Int)]) = true ∧ (nums Y).getD 0 0 = r.st ∧ (fullP (k : Int) r.st = true → takeP (rpF (k : Int)) PR.bare Y 1 = some (prOf r V Pl)) ∧ (fullP (k : Int) r.st = false → prOf r V Pl = PR.bare ∧ ((Y.extract 1 (1 + szF (rpF (k : Int)))).toList == (strOfNums (List.replicate (szF (rpF (k : Int))) (0 : Int))).toList) = true) := by
  have hl := lyL_full (k : Int) r V Pl hB
  have e : eyL (k : Int) r V Pl = r.st :: lyL (k : Int) r V Pl := by rw [eyL, numB1 _ (by omega) (by omega)]; rfl
  have hz : Y.size = 5 + szF (rpF (k : Int)) := by rw [← nums_len, hY, List.length_append, le4_len, (eyL_form k r V Pl hB).1]; omega
  have hc : ((nums Y).drop 1).take (szF (rpF (k : Int))) = lyL (k : Int) r V Pl := by
    rw [hY, e, List.cons_append, List.drop_succ_cons, List.drop_zero, List.take_left' hl]
  refine ⟨?_, by rw [hY, e]; rfl, fun hf => ?_, fun hf => ?_⟩
  · rw [frB, if_pos hz]
    exact ckB_true _ _ (eyL (k : Int) r V Pl) (by rw [kB_nums k hk]; exact hY)
  · rw [lyB, if_pos hf] at hB
    rw [lyL, if_pos hf] at hc
    unfold lgB at hB
    unfold lgL at hc
    cases eL : layG V Pl (rpF (k : Int)) r with
    | none => rw [eL] at hB; exact absurd (show false = true from hB) (by decide)
    | some x =>
      rw [eL] at hB hc
      obtain ⟨t1, t2⟩ := takeP_lay V Pl (rpF (k : Int)) (rpF_all (k : Int)) r PR.bare x Y 1 eL hc
      rw [t1, mrgP_self (k : Int) r V Pl hv hp (by rw [← t2]; exact hB)]
  · have hn : ¬ fullP (k : Int) r.st = true := by rw [hf]; decide
    rw [lyB, if_neg hn] at hB
    rw [lyL, if_neg hn] at hc
    have h' := of_decide_eq_true hB
    refine ⟨?_, ?_⟩
    · obtain ⟨a1, a2, a3, a4, a5, a6, a7⟩ := h'
      rw [prOf, a1, a2, a4, a6, a7, len0 hv a3, len0 hp a5]
      rfl
    · rw [show Y.extract 1 (1 + szF (rpF (k : Int))) = strOfNums (List.replicate (szF (rpF (k : Int))) (0 : Int)) from nums_inj (by rw [nums_cut, hc, rep0_nums])]
      exact beq_self_eq_true _
end Go.Proofs.YtpjoibolhkgkhaaGreatDoor
