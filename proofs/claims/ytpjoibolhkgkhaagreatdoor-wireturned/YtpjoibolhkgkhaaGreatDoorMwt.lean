import Derived.Test.YtpjoibolhkgkhaaGreatDoorXfj
import Derived.Test.YtpjoibolhkgkhaaGreatDoorMtr
import Derived.Test.YtpjoibolhkgkhaaGreatDoorMrq
import Derived.Test.YtpjoibolhkgkhaaGreatDoorMrp
namespace Go.Proofs.YtpjoibolhkgkhaaGreatDoor
open Go.RowKit
set_option maxRecDepth 100000
def rq0 : Req := ⟨1, 3, 258, 0, 0, 0, ⟨#[]⟩, ⟨#[]⟩, ⟨#[]⟩, ⟨#[]⟩⟩
def rp0 : Rep := ⟨0, 258, 3, none, 0, 0, 0, none, 0, 0, ⟨#[]⟩, ⟨#[]⟩⟩
theorem lay_rq0 : layQ (rqF 1) rq0 = some (Req.bare 1, [3, 1, 2]) := by
  simp [layQ, rqF, exq, okF, byF, rq0, Req.bare, fTen, fQuo, Prt.num, Prt.nil, numB, List.range_succ]
theorem rq0_B : lqB rq0 = true := by
  have h : layQ (rqF rq0.kd) rq0 = some (Req.bare 1, [3, 1, 2]) := lay_rq0
  rw [lqB, h]
  simp [eqQ, Req.bare, rq0]
theorem rq0_L : eqL rq0 = [1, 3, 1, 2] := by
  have h : layQ (rqF rq0.kd) rq0 = some (Req.bare 1, [3, 1, 2]) := lay_rq0
  rw [eqL, lqL, h]
  simp [rq0, numB, List.range_succ]
theorem lay_rp0 : layR (rpF 7) rp0 = some (Rep.bare 0, [1, 2, 0, 3]) := by
  simp [layR, rpF, exr, okF, byF, rp0, Rep.bare, fQuo, fCha, Prt.num, Prt.nil, numB, List.range_succ]
theorem rp0_B : lrB 7 rp0 = true := by
  rw [lrB, lay_rp0]
  simp [bareP, Rep.bare]
theorem rp0_L : epL 7 rp0 = [0, 1, 2, 0, 3] := by
  rw [epL, lrL, lay_rp0]
  simp [rp0, numB, List.range_succ]
theorem front_str (a b : List Int) (n : Nat) (hn : n = a.length) : (strOfNums a ++ strOfNums b).extract 0 n = strOfNums a := by
  subst hn
  apply ByteArray.ext
  simp [strOfNums, ByteArray.data_extract, ByteArray.data_append]
theorem built_rq0 : Tryz.prog.built 29 [(0, .int .i64 1), (1, .int .i64 3), (2, .int .i64 258)] = some rq0.cs := by kernel_rfl
theorem built_rp0 : Tryz.prog.built 34 [(1, .int .i64 258), (2, .int .i64 3)] = some rp0.cs := by kernel_rfl
set_option maxHeartbeats 2000000 in
theorem known12_any (w : World) : Calls Tryz.prog 8 #[] w fun e w' => e = .returned (.bool true) ∧ Below w.heap.size w w' := by
  have hE := encodeRequest_any rq0
  have e1 : encQ rq0 = strOfNums [1, 3, 1, 2] ++ strOfNums (le4 (chkN [1, 3, 1, 2])) := by
    rw [encQ, if_pos (by decide), if_pos rq0_B, rq0_L]
  have e2 : errQ rq0 = 0 := by rw [errQ, if_pos (by decide), if_pos rq0_B]
  rw [e1, e2] at hE
  have hP := fun W => encodeReply_full 7 (by decide) rp0 (by decide) (by decide) (by intro f hf; simp [rpF] at hf; rcases hf with rfl | rfl <;> simp [IsN]) rp0_B W
  have e3 : epL ((7 : Nat) : Int) rp0 = [0, 1, 2, 0, 3] := rp0_L
  rw [e3] at hP
  have l4 : ∀ c : Nat, (strOfNums (le4 c)).size = 4 := fun c => by rw [strOfNums_size]; rfl
  have s1 : (strOfNums [1, 3, 1, 2] ++ strOfNums (le4 (chkN [1, 3, 1, 2]))).size = 8 := by rw [ByteArray.size_append, strOfNums_size, l4]; rfl
  have x1 : (strOfNums [1, 3, 1, 2] ++ strOfNums (le4 (chkN [1, 3, 1, 2]))).extract 0 4 = ⟨#[1, 3, 1, 2]⟩ := front_str _ _ 4 rfl
  have s2 : (strOfNums [0, 1, 2, 0, 3] ++ strOfNums (le4 (chkN (((7 : Nat) : Int) :: [0, 1, 2, 0, 3])))).size = 9 := by rw [ByteArray.size_append, strOfNums_size, l4]; rfl
  have x2 : (strOfNums [0, 1, 2, 0, 3] ++ strOfNums (le4 (chkN (((7 : Nat) : Int) :: [0, 1, 2, 0, 3])))).extract 0 5 = ⟨#[0, 1, 2, 0, 3]⟩ := front_str _ _ 5 rfl
  have HE := hide hE
  have HP := hide hP
  clear hE hP e1 e2 e3 l4
  generalize strOfNums [1, 3, 1, 2] ++ strOfNums (le4 (chkN [1, 3, 1, 2])) = S at *
  generalize strOfNums [0, 1, 2, 0, 3] ++ strOfNums (le4 (chkN (((7 : Nat) : Int) :: [0, 1, 2, 0, 3]))) = T at *
  have HB1 := hide built_rq0
  have HB2 := hide built_rp0
  go_enter Tryz.func8, Tryz.ntmps8
  go_wp2_with (first | refine wpList_buildAs rfl 29 #[(0, .const (.int .i64 1)), (1, .const (.int .i64 3)), (2, .const (.int .i64 258))] rfl _ rfl rq0.cs (unhide HB1) ?_)
  refine (unhide HE _).mono ?_
  rintro e y ⟨rfl, hy⟩
  have HY := hide hy
  clear hy
  go_wp2_with (first | refine wpList_buildAs rfl 34 #[(1, .const (.int .i64 258)), (2, .const (.int .i64 3))] rfl _ rfl rp0.cs (unhide HB2) ?_)
  refine (unhide HP _).mono ?_
  rintro e z ⟨rfl, hz⟩
  have HZ := hide hz
  clear hz
  go_wp2
  go_ret
  exact ⟨rfl, (unhide HY).trans ((unhide HZ).mono (unhide HY).size)⟩
end Go.Proofs.YtpjoibolhkgkhaaGreatDoor
namespace Go.Proofs.YtpjoibolhkgkhaaGreatDoor
open Go.RowKit
set_option maxRecDepth 100000
/-- what DecodeReply answers, as far as it is wanted here -/
def DqQ (fb : Bool) (g : Nat) (w : World) (e : Ending) (w' : World) : Prop := ∃ (r : Rep) (E : Int), e = .returned (.tuple #[.agg r.cs, .int .i64 E]) ∧ (fb = false → E = 121) ∧ Below g w w'
set_option maxHeartbeats 8000000 in
theorem decodeReply_some (k : Nat) (hk : k ≤ 12) (s : ByteArray) (hs : s.size ≤ 150000000000000) (w : World) (hE : ETy w) : Calls Tryz.prog 16 #[.int .i64 (k : Int), .string s] w fun e w' => DqQ (frB s (rpF (k : Int)) (strOfNums [(k : Int)])) w.heap.size w e w' := by
  have HKK := hide (isReplyKind_any (k : Int))
  rw [decide_eq_true (show (0 : Int) ≤ (k : Int) ∧ (k : Int) ≤ 12 by omega)] at HKK
  have HKB := hide (fun W => kindByte_any k hk W)
  have hk1 : (strOfNums [(k : Int)]).size = 1 := by
    rw [← nums_len, nums_strOfNums]
    · rfl
    · intro j
      cases j with
      | zero => simp; omega
      | succ j => simp
  have HIF := hide (fun v W hR => isFrame_any s hs (rpF (k : Int)) (fun f hf => (rpF_all (k : Int) f hf).isF) (rpF_len (k : Int)) (strOfNums [(k : Int)]) (by omega) v W hR)
  have HFR := hide (show frB s (rpF (k : Int)) (strOfNums [(k : Int)]) = true → 1 + szF (rpF (k : Int)) ≤ s.size ∧ 0 < s.size by
    intro q
    unfold frB at q
    by_cases e : s.size = 5 + szF (rpF (k : Int))
    · omega
    · rw [if_neg e] at q; exact absurd q (by decide))
  have HTK := hide (fun st W b (q : 1 + szF (rpF (k : Int)) ≤ s.size) hA hEE => takeReply_some (k : Int) st s hs q W b hA hEE)
  have HRF := hide (rpf_any (k : Int))
  generalize frB s (rpF (k : Int)) (strOfNums [(k : Int)]) = FB at *
  generalize strOfNums [(k : Int)] = S1 at *
  generalize rpF (k : Int) = fs at *
  obtain ⟨g, hg⟩ : ∃ g, w.heap.size = g := ⟨_, rfl⟩
  obtain ⟨y, hy⟩ : ∃ Z, w.alloc (.cells #[.int .i64 0, .int .i64 0, .int .i64 0, .slice none 0 0, .int .i64 0, .slice none 0 0, .string ⟨#[]⟩, .string ⟨#[]⟩] 34) = Z := ⟨_, rfl⟩
  have BY : Blk y g #[.int .i64 0, .int .i64 0, .int .i64 0, .slice none 0 0, .int .i64 0, .slice none 0 0, .string ⟨#[]⟩, .string ⟨#[]⟩] 34 := by rw [← hy, ← hg]; exact Blk.new w _ _
  have hby : Below g w y := by rw [← hy, ← hg]; exact (Below.refl _ w).alloc (Nat.le_refl _) _
  have HEW := hide (fun W (q : Below g w W) => hE.below q (by rw [← hg]; exact hE.lt))
  have HY := hide (And.intro BY hby)
  rw [hg]
  clear BY hby hE hk1
  go_enter Tryz.func16, Tryz.ntmps16
  go_wp2_with (first | (go_at_call 34; refine (unhide HKK _).mono ?_; rintro e x ⟨rfl, hx⟩; subst x))
  clear hy
  refine (unhide HRF _).mono ?_
  rintro e x3 ⟨fvv, rfl, hR3, hb3⟩
  obtain ⟨BY, hby⟩ := unhide HY
  have hgy := BY.lt
  have H3 := hide (And.intro (BY.below hb3 BY.lt) (And.intro (hby.trans (hb3.mono (by omega))) hR3))
  clear BY hby hR3 hb3 HY HRF
  go_wp2_with fail
  refine (unhide HKB _).mono ?_
  rintro e x4 ⟨rfl, hb4⟩
  obtain ⟨B3, hbw3, hR3⟩ := unhide H3
  have hg3 := B3.lt
  have HIF3 := hide (unhide HIF fvv x4 (hR3.below hb4 hR3.lt))
  have H4 := hide (And.intro (B3.below hb4 B3.lt) (hbw3.trans (hb4.mono (by omega))))
  clear B3 hbw3 hR3 hb4 H3 HIF HKB
  go_wp2_with fail
  refine (unhide HIF3).mono ?_
  rintro e x5 ⟨rfl, hb5⟩
  have B5 := (unhide H4).1.below hb5 (unhide H4).1.lt
  have hg4 := (unhide H4).1.lt
  have hbw5 : Below g w x5 := (unhide H4).2.trans (hb5.mono (by omega))
  clear hb5 H4 HIF3
  cases FB with
  | false =>
    have BT := blk_setRow (cells := (Rep.bare 0).cs) B5
    have HL := hide (iload_blk 34 _ BT Tryz.underlying34 rfl size_rep)
    have HZ := hide B5
    have HBN := hide built_norep
    have HO := hide (Rep.one (Rep.bare 0))
    have HF2 := hide (show Below g w (x5.setRow g (Rep.bare 0).cs) from below_setRow hbw5 (Nat.le_refl _) _)
    clear BT
    go_wp2_with (first | refine wpList_buildAs rfl 34 #[] rfl _ rfl (Rep.bare 0).cs (unhide HBN) ?_ | refine wpList_store_row rfl 34 (.tmp 4) (.tmp 21) rfl g (Rep.bare 0).cs rfl rfl 34 #[.int .i64 0, .int .i64 0, .int .i64 0, .slice none 0 0, .int .i64 0, .slice none 0 0, .string ⟨#[]⟩, .string ⟨#[]⟩] (unhide HZ) size_rep rfl (unhide HO) ?_)
    (try simp only [Exit.inBlock, Exit.then])
    refine bodyPost_ret (v := .tuple #[.agg (Rep.bare 0).cs, .int .i64 121]) (results_cell2 (p := 4) (q := 5) (ty := 34) rfl _ _ _ ⟨g, 0, none⟩ rfl _ (unhide HL)) rfl ?_
    exact ⟨Rep.bare 0, 121, rfl, fun _ => rfl, unhide HF2⟩
  | true =>
    have HX5 := hide (And.intro B5 hbw5)
    have HS := hide (unhide HFR rfl)
    have hs0 := (unhide HS).2
    clear B5 hbw5
    go_wp2_with fail
    refine (newReader_any s _).mono ?_
    rintro e x6 ⟨rfl, hR6, hb6, hs6⟩
    obtain ⟨v, hv⟩ : ∃ v, x5.heap.size = v := ⟨_, rfl⟩
    rw [hv] at hR6 hb6 hs6 ⊢
    have hg5 := (unhide HX5).1.lt
    have B6 := (unhide HX5).1.below hb6 (by omega)
    have hbw6 : Below g w x6 := (unhide HX5).2.trans (hb6.mono (by omega))
    have hA6 : At x6 v s 0 := by unfold At Rds; rw [extract_all]; exact hR6
    have HN := hide (numA x6 v s 0 1 hA6 (unhide HEW x6 hbw6) hs (by decide) (by decide) (by omega))
    rw [beN1 s 0 hs0] at HN
    have hbb := nums_bytes s 0
    obtain ⟨st, hst⟩ : ∃ st, (nums s).getD 0 0 = st := ⟨_, rfl⟩
    rw [hst] at HN hbb
    have H6 := hide (And.intro B6 hbw6)
    clear hR6 hb6 hs6 B6 hbw6 hA6 hst HX5
    go_wp2_with fail
    refine (unhide HN).mono ?_
    rintro e x7 ⟨rfl, hA7, hO7⟩
    have hgv : g < v := by omega
    have hg6 := (unhide H6).1.lt
    have B7 := (unhide H6).1.only hO7 (by omega)
    have hbw7 : Below g w x7 := (unhide H6).2.trans (hO7.below (B := g) (by omega) (fun q hq e => by omega))
    have HSS := hide (isStatus_any st)
    clear hO7 HN H6
    by_cases hst : 0 ≤ st ∧ st ≤ 13
    · rw [decide_eq_true hst] at HSS
      have HTR := hide (unhide HTK st x7 v (unhide HS).1 hA7 (unhide HEW x7 hbw7))
      have H7 := hide (And.intro B7 hbw7)
      clear B7 hbw7 hA7
      go_wp2_with (first | (go_at_call 35; refine (unhide HSS _).mono ?_; rintro e x ⟨rfl, hx⟩; subst x))
      refine (unhide HTR).mono ?_
      rintro e x8 ⟨r, B, rfl, hO8⟩
      have hg7 := (unhide H7).1.lt
      have B8 := (unhide H7).1.only hO8 (by omega)
      have hbw8 : Below g w x8 := (unhide H7).2.trans (hO8.below (B := g) (by omega) (fun q hq e => by omega))
      obtain ⟨u, hu⟩ : ∃ u, x8.heap.size = u := ⟨_, rfl⟩
      obtain ⟨xa, hxa⟩ : ∃ Z, x8.alloc (.cells #[.int .i64 0, .int .i64 0, .int .i64 0, .slice none 0 0, .int .i64 0, .slice none 0 0, .string ⟨#[]⟩, .string ⟨#[]⟩] 34) = Z := ⟨_, rfl⟩
      obtain ⟨x9, hx9⟩ : ∃ Z, xa.setRow u r.cs = Z := ⟨_, rfl⟩
      have HBA := hide (show Blk xa u #[.int .i64 0, .int .i64 0, .int .i64 0, .slice none 0 0, .int .i64 0, .slice none 0 0, .string ⟨#[]⟩, .string ⟨#[]⟩] 34 from by rw [← hxa, ← hu]; exact Blk.new _ _ _)
      have HOR := hide (Rep.one r)
      have hg8 := B8.lt
      have hba : Below u x8 xa := by rw [← hxa, ← hu]; exact (Below.refl _ _).alloc (Nat.le_refl _) _
      have oU : Only (fun j => j = u) xa x9 := by rw [← hx9]; exact only_setRow (P := fun j => j = u) u _ rfl
      have B9 : Blk x9 g #[.int .i64 0, .int .i64 0, .int .i64 0, .slice none 0 0, .int .i64 0, .slice none 0 0, .string ⟨#[]⟩, .string ⟨#[]⟩] 34 := (B8.below hba (by omega)).only oU (by omega)
      have C9 : Blk x9 u r.cs 34 := by rw [← hx9]; exact blk_setRow (unhide HBA)
      have hbw9 : Below g w x9 := (hbw8.trans (hba.mono (by omega))).trans (oU.below (B := g) (by have := hba.size; omega) (fun q hq e => by omega))
      have HRG := hide (show x9.rangeAt u 0 r.cl from blk_range C9)
      clear hO8 HTR H7 B8 hbw8 hba oU C9 HSS
      cases B with
      | false =>
        have BT := blk_setRow (cells := (Rep.bare 0).cs) B9
        have HL := hide (iload_blk 34 _ BT Tryz.underlying34 rfl size_rep)
        have HZ := hide B9
        have HBN := hide built_norep
        have HO := hide (Rep.one (Rep.bare 0))
        have HF2 := hide (show Below g w (x9.setRow g (Rep.bare 0).cs) from below_setRow hbw9 (Nat.le_refl _) _)
        clear BT
        go_wp2_with (first | refine wpList_buildAs rfl 34 #[] rfl _ rfl (Rep.bare 0).cs (unhide HBN) ?_ | refine wpList_store_row rfl 34 (.tmp 4) (.tmp 39) rfl g (Rep.bare 0).cs rfl rfl 34 #[.int .i64 0, .int .i64 0, .int .i64 0, .slice none 0 0, .int .i64 0, .slice none 0 0, .string ⟨#[]⟩, .string ⟨#[]⟩] (unhide HZ) size_rep rfl (unhide HO) ?_ | refine wpList_store_row rfl 34 (.tmp 8) (.tmp 35) rfl u r.cs rfl rfl 34 #[.int .i64 0, .int .i64 0, .int .i64 0, .slice none 0 0, .int .i64 0, .slice none 0 0, .string ⟨#[]⟩, .string ⟨#[]⟩] (unhide HBA) size_rep rfl (unhide HOR) ?_)
        (try simp only [Exit.inBlock, Exit.then])
        refine bodyPost_ret (v := .tuple #[.agg (Rep.bare 0).cs, .int .i64 122]) (results_cell2 (p := 4) (q := 5) (ty := 34) rfl _ _ _ ⟨g, 0, none⟩ rfl _ (unhide HL)) rfl ?_
        exact ⟨Rep.bare 0, 122, rfl, (fun q => (by cases q)), unhide HF2⟩
      | true =>
        have BT := blk_setRow (cells := r.cs) B9
        have HL := hide (iload_blk 34 _ BT Tryz.underlying34 rfl size_rep)
        have HZ := hide B9
        have HF2 := hide (show Below g w (x9.setRow g r.cs) from below_setRow hbw9 (Nat.le_refl _) _)
        clear BT
        go_wp2_with (first | refine wpList_store_row rfl 34 (.tmp 8) (.tmp 35) rfl u r.cs rfl rfl 34 #[.int .i64 0, .int .i64 0, .int .i64 0, .slice none 0 0, .int .i64 0, .slice none 0 0, .string ⟨#[]⟩, .string ⟨#[]⟩] (unhide HBA) size_rep rfl (unhide HOR) ?_ | refine wpList_load_mid rfl 34 (.tmp 8) rfl u 0 rfl r.cl _ (unhide HRG) Tryz.underlying34 rfl size_rep ?_ | refine wpList_store_row rfl 34 (.tmp 4) (.tmp 40) rfl g r.cs rfl rfl 34 #[.int .i64 0, .int .i64 0, .int .i64 0, .slice none 0 0, .int .i64 0, .slice none 0 0, .string ⟨#[]⟩, .string ⟨#[]⟩] (unhide HZ) size_rep rfl (unhide HOR) ?_)
        (try simp only [Exit.inBlock, Exit.then])
        refine bodyPost_ret (v := .tuple #[.agg r.cs, .int .i64 0]) (results_cell2 (p := 4) (q := 5) (ty := 34) rfl _ _ _ ⟨g, 0, none⟩ rfl _ (unhide HL)) rfl ?_
        exact ⟨r, 0, rfl, (fun q => (by cases q)), unhide HF2⟩
    · rw [decide_eq_false hst] at HSS
      have BT := blk_setRow (cells := (Rep.bare 0).cs) B7
      have HL := hide (iload_blk 34 _ BT Tryz.underlying34 rfl size_rep)
      have HZ := hide B7
      have HBN := hide built_norep
      have HO := hide (Rep.one (Rep.bare 0))
      have HF2 := hide (show Below g w (x7.setRow g (Rep.bare 0).cs) from below_setRow hbw7 (Nat.le_refl _) _)
      clear BT
      go_wp2_with (first | refine wpList_buildAs rfl 34 #[] rfl _ rfl (Rep.bare 0).cs (unhide HBN) ?_ | refine wpList_store_row rfl 34 (.tmp 4) (.tmp 29) rfl g (Rep.bare 0).cs rfl rfl 34 #[.int .i64 0, .int .i64 0, .int .i64 0, .slice none 0 0, .int .i64 0, .slice none 0 0, .string ⟨#[]⟩, .string ⟨#[]⟩] (unhide HZ) size_rep rfl (unhide HO) ?_ | (go_at_call 35; refine (unhide HSS _).mono ?_; rintro e x ⟨rfl, hx⟩; subst x))
      (try simp only [Exit.inBlock, Exit.then])
      refine bodyPost_ret (v := .tuple #[.agg (Rep.bare 0).cs, .int .i64 122]) (results_cell2 (p := 4) (q := 5) (ty := 34) rfl _ _ _ ⟨g, 0, none⟩ rfl _ (unhide HL)) rfl ?_
      exact ⟨Rep.bare 0, 122, rfl, (fun q => (by cases q)), unhide HF2⟩
end Go.Proofs.YtpjoibolhkgkhaaGreatDoor
namespace Go.Proofs.YtpjoibolhkgkhaaGreatDoor
open Go.RowKit
set_option maxRecDepth 100000
theorem le4_len (c : Nat) : (le4 c).length = 4 := rfl
theorem szQ_le (k : Int) : szF (rqF k) ≤ 1024 := by
  have h1 := szF_le (rqF k) (fun f hf => (rqF_all k f hf).isF)
  have h2 := rqF_len k
  omega
theorem szP_le (k : Int) : szF (rpF k) ≤ 1024 := by
  have h1 := szF_le (rpF k) (fun f hf => (rpF_all k f hf).isF)
  have h2 := rpF_len k
  omega
/-- a frame in numbers -/
theorem frm_nums (E : List Int) (hE : Bytes E) (L : List Int) : nums (strOfNums E ++ strOfNums (le4 (chkN L))) = E ++ le4 (chkN L) := by
  rw [nums_app, nums_strOfNums _ hE, nums_strOfNums _ (le4_bytes _ (chkN_lt _))]
theorem frm_size (E L : List Int) : (strOfNums E ++ strOfNums (le4 (chkN L))).size = E.length + 4 := by
  rw [ByteArray.size_append, strOfNums_size, strOfNums_size]; rfl
theorem lqL_full (r : Req) (h : lqB r = true) : (lqL r).length = szF (rqF r.kd) := by
  unfold lqB at h
  unfold lqL
  cases e : layQ (rqF r.kd) r with
  | none => rw [e] at h; exact absurd (show false = true from h) (by decide)
  | some x => exact (layQ_len _ (rqF_all r.kd) r x e).1
theorem lyL_full (k : Int) (r : Rep) (V Pl : List Int) (h : lyB k r V Pl = true) : (lyL k r V Pl).length = szF (rpF k) := by
  unfold lyB at h
  unfold lyL
  by_cases q : fullP k r.st = true
  · rw [if_pos q] at h ⊢
    unfold lgB at h
    unfold lgL
    cases e : layG V Pl (rpF k) r with
    | none => rw [e] at h; exact absurd (show false = true from h) (by decide)
    | some x => exact (layG_len V Pl _ (rpF_all k) r x e).1
  · rw [if_neg q, List.length_replicate]
theorem encQ_form (r : Req) (hk : 1 ≤ r.kd ∧ r.kd ≤ 12) (h : lqB r = true) : errQ r = 0 ∧ nums (encQ r) = eqL r ++ le4 (chkN (nums ⟨#[]⟩ ++ eqL r)) ∧ (encQ r).size = 5 + szF (rqF r.kd) ∧ (nums (encQ r)).getD 0 0 = r.kd := by
  have e1 : encQ r = strOfNums (eqL r) ++ strOfNums (le4 (chkN (eqL r))) := by rw [encQ, if_pos hk, if_pos h]
  have e2 : eqL r = r.kd :: lqL r := by rw [eqL, numB1 _ (by omega) (by omega)]; rfl
  have e3 : nums (encQ r) = eqL r ++ le4 (chkN (eqL r)) := by rw [e1, frm_nums _ (eqL_len r).2]
  refine ⟨by rw [errQ, if_pos hk, if_pos h], e3, ?_, ?_⟩
  · rw [e1, frm_size, e2, List.length_cons, lqL_full r h]; omega
  · rw [e3, e2]; rfl
theorem decE_ck (s : ByteArray) (h : ckB ⟨#[]⟩ s = false) : decE s ≠ 0 := by
  unfold decE
  by_cases q : kdO s
  · rw [if_pos q, if_neg (by unfold frB; split <;> simp [h])]; decide
  · rw [if_neg q]; decide
theorem decE_cut (s : ByteArray) (c : Nat) (hc : c < s.size) (k : Int) (hk : (nums s).getD 0 0 = k) (hz : s.size = 5 + szF (rqF k)) : decE (s.extract 0 c) ≠ 0 := by
  have hs : (s.extract 0 c).size = c := by rw [ByteArray.size_extract]; omega
  unfold decE
  by_cases q : kdO (s.extract 0 c)
  · have hp : 0 < c := by have := q.1; omega
    have e : kdS (s.extract 0 c) = k := by
      rw [← hk, kdS, nums_extract, List.drop_zero]
      have hl := nums_len s
      cases hn : nums s with
      | nil => rw [hn] at hl; simp at hl; omega
      | cons a l =>
        cases c with
        | zero => omega
        | succ c => rfl
    rw [if_pos q, e, if_neg (by unfold frB; rw [if_neg (by omega)]; decide)]; decide
  · rw [if_neg q]; decide
theorem decE_more (s m : ByteArray) (hm : 0 < m.size) (k : Int) (hk1 : 1 ≤ k ∧ k ≤ 12) (hk : (nums s).getD 0 0 = k) (hz : s.size = 5 + szF (rqF k)) : decE (s ++ m) = 121 := by
  have hs : (s ++ m).size = s.size + m.size := ByteArray.size_append
  have e : kdS (s ++ m) = k := by
    rw [← hk, kdS, nums_app]
    have hl := nums_len s
    cases hn : nums s with
    | nil => rw [hn] at hl; simp at hl; omega
    | cons a l => rfl
  have q : kdO (s ++ m) := ⟨by omega, by rw [e]; exact hk1.1, by rw [e]; exact hk1.2⟩
  unfold decE
  rw [if_pos q, e, if_neg (by unfold frB; rw [if_neg (by omega)]; decide)]
theorem frB_size (s : ByteArray) (fs : List Fld) (ah : ByteArray) (h : s.size ≠ 5 + szF fs) : frB s fs ah = false := by unfold frB; rw [if_neg h]
theorem frB_ck (s : ByteArray) (fs : List Fld) (ah : ByteArray) (h : ckB ah s = false) : frB s fs ah = false := by unfold frB; split <;> simp [h]
theorem kB_nums (k : Nat) (hk : k ≤ 12) : nums (strOfNums [(k : Int)]) = [(k : Int)] := nums_strOfNums _ (fun j => by
  cases j with
  | zero => simp; omega
  | succ j => simp)
theorem eyL_form (k : Nat) (r : Rep) (V Pl : List Int) (h : lyB (k : Int) r V Pl = true) : (eyL (k : Int) r V Pl).length = 1 + szF (rpF (k : Int)) ∧ Bytes (eyL (k : Int) r V Pl) := by
  refine ⟨?_, Bytes.app (numB_bytes _ _) (lyL_len _ r V Pl).2⟩
  rw [eyL, List.length_append, numB_len, lyL_full _ _ _ _ h]
end Go.Proofs.YtpjoibolhkgkhaaGreatDoor
namespace Go.Proofs.YtpjoibolhkgkhaaGreatDoor
open Go.RowKit
set_option maxRecDepth 100000
/-- a row in a box of its own behind a world -/
theorem boxw (x : World) (T : TypeId) (zs cs : Array Value) (g : Nat) (w : World) (hb : Below g w x) (hg : g ≤ x.heap.size) : Blk (x.alloc (.cells zs T)) x.heap.size zs T ∧ Below g w ((x.alloc (.cells zs T)).setRow x.heap.size cs) :=
  ⟨Blk.new x T zs, hb.trans ((below_setRow ((Below.refl _ x).alloc (Nat.le_refl _) _) (Nat.le_refl _) _).mono hg)⟩
set_option maxHeartbeats 8000000 in
theorem turned_law12 (kind a b status at0 pat0 cut : Int) (hkind : I64 kind) (ha : I64 a) (hb : I64 b) (hst : I64 status) (hat : I64 at0) (hpat : I64 pat0) (hcut : I64 cut) (p : Option Addr) (n c : Nat) (L : List Int) (hn : L.length = n) (w : World) (hL : Lst w w.heap.size p L) (hI : ∀ j, I64 (L.getD j 0)) (hn9 : n ≤ 9223372036854775807) (s : ByteArray) (hs : s.size ≤ 140737488351232) (m : ByteArray) (hm : m.size ≤ 140737488351232) (hE : ETy w) :
    Calls Tryz.prog 3 #[.int .i64 kind, .int .i64 a, .int .i64 b, .slice p n c, .string s, .int .i64 status, .int .i64 at0, .int .i64 pat0, .int .i64 cut, .string m] w fun e w' => e = .returned (.bool true) ∧ Below w.heap.size w w' := by
  have HK := hide (known12_any w)
  have HP := hide (fun W => pick12_any kind 13 (by decide) hkind 13 rfl W)
  have hkl := pickP_lt kind 13 (by decide)
  have hql := pickP_lt kind 12 (by decide)
  have HRQ := hide (fun W => request12_any kind a b hkind ha hb s hs W)
  have HRP := hide (fun W (q : Lst W W.heap.size p L) => reply12_any (w := W) (pickP kind 13) status a b hst ha hb p n c L hn q hI hn9 s hs (by omega))
  have HT := hide (fun (X : ByteArray) (N : Nat) (e : X.size = N) (h5 : 5 ≤ N) (h9 : N ≤ 100000) W => turned12_any X N e h5 h9 at0 pat0 hat hpat W)
  have HPC := hide (fun (N : Nat) (h : 0 < N) W => pick12_any cut N h hcut (N : Int) rfl W)
  generalize pickP kind 13 = k at *
  generalize pickP kind 12 = q at *
  obtain ⟨g, hg⟩ : ∃ g, w.heap.size = g := ⟨_, rfl⟩
  have HEW := hide (fun W (q : Below g w W) => hE.below q (by rw [← hg]; exact hE.lt))
  have HLW := hide (fun W (q : Below g w W) => (show Lst W W.heap.size p L from ((hg ▸ hL).below q).mono (by rw [← hg]; exact q.size)))
  have HM := hide hm
  have hk : k ≤ 12 := by omega
  have hk9 := hide hk
  have hq9 := hide hql
  rw [hg]
  clear hL hI hn hn9 hm hE hkl hql hk hkind ha hb hst hat hpat hcut hs
  go_enter Tryz.func3, Tryz.ntmps3
  go_wp2_with fail
  refine (unhide HK).mono ?_
  rintro e x1 ⟨rfl, hx1⟩
  have H1 := hide (show Below g w x1 ∧ g ≤ x1.heap.size from ⟨hg ▸ hx1, by rw [← hg]; exact hx1.size⟩)
  clear hx1 HK
  go_wp2_with (first | (go_at_call 9; refine (unhide HP _).mono ?_; rintro e x ⟨rfl, hx⟩; subst x))
  refine (unhide HRQ _).mono ?_
  rintro e x2 ⟨⟨r, rfl, hr⟩, hx2⟩
  have hq12 := unhide hq9
  have HF := encQ_form r (by rw [hr.1]; omega) hr.2
  have hr1 : 1 ≤ r.kd ∧ r.kd ≤ 12 := by rw [hr.1]; omega
  have HEN := hide (encodeRequest_any r x2)
  rw [HF.1] at HEN
  have hrb := (eqL_len r).2
  have hsz := szQ_le r.kd
  generalize encQ r = X at *
  generalize eqL r = EX at *
  generalize r.kd = kx at *
  obtain ⟨nX, hnX⟩ : ∃ N, X.size = N := ⟨_, rfl⟩
  have h5X : 5 ≤ nX := by have := HF.2.2.1; omega
  have h9X : nX ≤ 100000 := by have := HF.2.2.1; omega
  have HFX := hide (And.intro HF (And.intro hrb hr1))
  have H2 := hide (show Below g w x2 ∧ g ≤ x2.heap.size from ⟨(unhide H1).1.trans (hx2.mono (unhide H1).2), Nat.le_trans (unhide H1).2 hx2.size⟩)
  clear HF hrb hr1 hr hx2 H1 hq12 hsz
  go_wp2_with fail
  refine (unhide HEN).mono ?_
  rintro e x3 ⟨rfl, hx3⟩
  have H3 := hide (show Below g w x3 ∧ g ≤ x3.heap.size from ⟨(unhide H2).1.trans (hx3.mono (unhide H2).2), Nat.le_trans (unhide H2).2 hx3.size⟩)
  have HRP3 := hide (unhide HRP x3 (unhide HLW x3 (unhide H3).1))
  clear hx3 H2 HEN
  go_wp2_with fail
  refine (unhide HRP3).mono ?_
  rintro e x4 ⟨⟨r2, V, Pl, rfl, hG⟩, hx4⟩
  have HEN := hide (encodeReply_ok k (unhide hk9) r2 V Pl hG.vm hG.pm (by have := hG.m8; omega) hG.st hG.ok x4 hG.lv hG.lp)
  have hey := eyL_form k r2 V Pl hG.ok
  have hyn := frm_nums (eyL (k : Int) r2 V Pl) hey.2 ((k : Int) :: eyL (k : Int) r2 V Pl)
  have hys := frm_size (eyL (k : Int) r2 V Pl) ((k : Int) :: eyL (k : Int) r2 V Pl)
  have hsz := szP_le (k : Int)
  generalize eyL (k : Int) r2 V Pl = EY at *
  generalize strOfNums EY ++ strOfNums (le4 (chkN ((k : Int) :: EY))) = Y at *
  obtain ⟨nY, hnY⟩ : ∃ N, Y.size = N := ⟨_, rfl⟩
  have h5Y : 5 ≤ nY := by omega
  have h9Y : nY ≤ 100000 := by omega
  have HFY := hide (And.intro hey (And.intro hyn hys))
  have H4 := hide (show Below g w x4 ∧ g ≤ x4.heap.size from ⟨(unhide H3).1.trans (hx4.mono (unhide H3).2), Nat.le_trans (unhide H3).2 hx4.size⟩)
  clear hey hyn hys hsz hG hx4 H3 HRP3
  go_wp2_with fail
  refine (unhide HEN).mono ?_
  rintro e x5 ⟨rfl, hx5⟩
  have H5 := hide (show Below g w x5 ∧ g ≤ x5.heap.size from ⟨(unhide H4).1.trans (hx5.mono (unhide H4).2), Nat.le_trans (unhide H4).2 hx5.size⟩)
  have HTX := hide (unhide HT X nX hnX h5X h9X)
  have HTY := hide (unhide HT Y nY hnY h5Y h9Y)
  have i5X : (5 : Int) ≤ (nX : Int) := by omega
  have i5Y : (5 : Int) ≤ (nY : Int) := by omega
  have j5X : ¬ ((nX : Int) < 5) := by omega
  have j5Y : ¬ ((nY : Int) < 5) := by omega
  have j55 : (5 : Int) ≤ (nX : Int) ∧ (5 : Int) ≤ (nY : Int) := ⟨i5X, i5Y⟩
  clear hx5 H4 HEN HT
  go_wp2_with fail
  refine (unhide HTX _).mono ?_
  rintro e x6 ⟨⟨t1, k1, p1, rfl, ht1, hk1, hp1, hp1', hl1⟩, hx6⟩
  have H6 := hide (show Below g w x6 ∧ g ≤ x6.heap.size from ⟨(unhide H5).1.trans (hx6.mono (unhide H5).2), Nat.le_trans (unhide H5).2 hx6.size⟩)
  have hD1 : decE t1 ≠ 0 := decE_ck t1 (burst_bad ⟨#[]⟩ X t1 EX (unhide HFX).2.1 (unhide HFX).1.2.1 (by omega) k1 p1 (by omega) hp1 hp1' hl1)
  have HDX := hide (fun W (hW : Below g w W) => decodeRequest_any t1 (by omega) W (unhide HEW W hW))
  generalize decE t1 = D1 at *
  generalize decR t1 = c1 at *
  clear hx6 H5 HTX ht1 hk1 hp1 hp1' hl1
  go_wp2_with fail
  refine (unhide HTY _).mono ?_
  rintro e x7 ⟨⟨t2, k2, p2, rfl, ht2, hk2, hp2, hp2', hl2⟩, hx7⟩
  have H7 := hide (show Below g w x7 ∧ g ≤ x7.heap.size from ⟨(unhide H6).1.trans (hx7.mono (unhide H6).2), Nat.le_trans (unhide H6).2 hx7.size⟩)
  have hfb := frB_ck t2 (rpF (k : Int)) (strOfNums [(k : Int)]) (burst_bad (strOfNums [(k : Int)]) Y t2 EY (unhide HFY).1.2 (by rw [kB_nums k (unhide hk9)]; exact (unhide HFY).2.1) (by omega) k2 p2 (by omega) hp2 hp2' hl2)
  have HDY := hide (fun W (hW : Below g w W) => decodeReply_some k (unhide hk9) t2 (by omega) W (unhide HEW W hW))
  rw [hfb] at HDY
  have HC1 := hide (unhide HDX x7 (unhide H7).1)
  clear hx7 H6 HTY ht2 hk2 hp2 hp2' hl2 hfb HDX
  go_wp2_with fail
  refine (unhide HC1).mono ?_
  rintro e y1 ⟨rfl, hy1⟩
  have hby1 : Below g w y1 := (unhide H7).1.trans (hy1.mono (unhide H7).2)
  have hgy1 : g ≤ y1.heap.size := Nat.le_trans (unhide H7).2 hy1.size
  obtain ⟨h1, hh1⟩ : ∃ h, y1.heap.size = h := ⟨_, rfl⟩
  obtain ⟨N1, N2⟩ := boxw y1 29 #[.int .i64 0, .int .i64 0, .int .i64 0, .int .i64 0, .int .i64 0, .int .i64 0, .string ⟨#[]⟩, .string ⟨#[]⟩, .string ⟨#[]⟩, .string ⟨#[]⟩] c1.cs g w hby1 hgy1
  rw [hh1] at N1 N2
  obtain ⟨z1, hz1⟩ : ∃ Z, y1.alloc (.cells #[.int .i64 0, .int .i64 0, .int .i64 0, .int .i64 0, .int .i64 0, .int .i64 0, .string ⟨#[]⟩, .string ⟨#[]⟩, .string ⟨#[]⟩, .string ⟨#[]⟩] 29) = Z := ⟨_, rfl⟩
  rw [hz1] at N1 N2
  have HZ1 := hide N1
  have HO1 := hide (Req.one c1)
  obtain ⟨q1, hq1⟩ : ∃ Z, z1.setRow h1 c1.cs = Z := ⟨_, rfl⟩
  rw [hq1] at N2
  have H8 := hide (show Below g w q1 ∧ g ≤ q1.heap.size from ⟨N2, by rw [← hg]; exact N2.size⟩)
  have HC2 := hide (unhide HDY q1 N2)
  clear hby1 hgy1 N1 N2 hy1 H7 HC1
  go_wp2_with (first | refine wpList_store_row rfl 29 (.tmp 29) (.tmp 96) rfl h1 c1.cs rfl rfl 29 #[.int .i64 0, .int .i64 0, .int .i64 0, .int .i64 0, .int .i64 0, .int .i64 0, .string ⟨#[]⟩, .string ⟨#[]⟩, .string ⟨#[]⟩, .string ⟨#[]⟩] (unhide HZ1) size_req rfl (unhide HO1) ?_)
  (try rw [hq1])
  refine (unhide HC2).mono ?_
  rintro e y2 ⟨cr2, E2, rfl, hE2, hy2⟩
  have hE2' := hE2 rfl
  subst hE2'
  clear hE2
  have hby2 : Below g w y2 := (unhide H8).1.trans (hy2.mono (unhide H8).2)
  have hgy2 : g ≤ y2.heap.size := Nat.le_trans (unhide H8).2 hy2.size
  obtain ⟨h2, hh2⟩ : ∃ h, y2.heap.size = h := ⟨_, rfl⟩
  obtain ⟨N1, N2⟩ := boxw y2 34 #[.int .i64 0, .int .i64 0, .int .i64 0, .slice none 0 0, .int .i64 0, .slice none 0 0, .string ⟨#[]⟩, .string ⟨#[]⟩] cr2.cs g w hby2 hgy2
  rw [hh2] at N1 N2
  obtain ⟨z2, hz2⟩ : ∃ Z, y2.alloc (.cells #[.int .i64 0, .int .i64 0, .int .i64 0, .slice none 0 0, .int .i64 0, .slice none 0 0, .string ⟨#[]⟩, .string ⟨#[]⟩] 34) = Z := ⟨_, rfl⟩
  rw [hz2] at N1 N2
  have HZ2 := hide N1
  have HO2 := hide (Rep.one cr2)
  obtain ⟨q2, hq2⟩ : ∃ Z, z2.setRow h2 cr2.cs = Z := ⟨_, rfl⟩
  rw [hq2] at N2
  have H9 := hide (show Below g w q2 ∧ g ≤ q2.heap.size from ⟨N2, by rw [← hg]; exact N2.size⟩)
  have HPX := hide (unhide HPC nX (by omega))
  have hcl := pickP_lt cut nX (by omega)
  have hD3 := decE_cut X (pickP cut nX) (by omega) kx (unhide HFX).1.2.2.2 (unhide HFX).1.2.2.1
  have HC3 := hide (decodeRequest_any (X.extract 0 (pickP cut nX)) (by rw [ByteArray.size_extract]; omega) q2 (unhide HEW q2 N2))
  generalize pickP cut nX = cX at *
  generalize decE (X.extract 0 cX) = D3 at *
  generalize decR (X.extract 0 cX) = c3 at *
  have ic1 : (0 : Int) ≤ (cX : Int) := by omega
  have ic2 : (cX : Int) ≤ (nX : Int) := by omega
  clear hby2 hgy2 N1 N2 hy2 H8 HC2
  go_wp2_with (first | refine wpList_store_row rfl 34 (.tmp 31) (.tmp 102) rfl h2 cr2.cs rfl rfl 34 #[.int .i64 0, .int .i64 0, .int .i64 0, .slice none 0 0, .int .i64 0, .slice none 0 0, .string ⟨#[]⟩, .string ⟨#[]⟩] (unhide HZ2) size_rep rfl (unhide HO2) ?_ | (go_at_call 9; refine (unhide HPX _).mono ?_; rintro e x ⟨rfl, hx⟩; subst x))
  (try rw [hq2])
  clear HPX ic1 ic2 hcl
  refine (unhide HC3).mono ?_
  rintro e y3 ⟨rfl, hy3⟩
  have hby3 : Below g w y3 := (unhide H9).1.trans (hy3.mono (unhide H9).2)
  have hgy3 : g ≤ y3.heap.size := Nat.le_trans (unhide H9).2 hy3.size
  obtain ⟨h3, hh3⟩ : ∃ h, y3.heap.size = h := ⟨_, rfl⟩
  obtain ⟨N1, N2⟩ := boxw y3 29 #[.int .i64 0, .int .i64 0, .int .i64 0, .int .i64 0, .int .i64 0, .int .i64 0, .string ⟨#[]⟩, .string ⟨#[]⟩, .string ⟨#[]⟩, .string ⟨#[]⟩] c3.cs g w hby3 hgy3
  rw [hh3] at N1 N2
  obtain ⟨z3, hz3⟩ : ∃ Z, y3.alloc (.cells #[.int .i64 0, .int .i64 0, .int .i64 0, .int .i64 0, .int .i64 0, .int .i64 0, .string ⟨#[]⟩, .string ⟨#[]⟩, .string ⟨#[]⟩, .string ⟨#[]⟩] 29) = Z := ⟨_, rfl⟩
  rw [hz3] at N1 N2
  have HZ3 := hide N1
  have HO3 := hide (Req.one c3)
  obtain ⟨q3, hq3⟩ : ∃ Z, z3.setRow h3 c3.cs = Z := ⟨_, rfl⟩
  rw [hq3] at N2
  have H10 := hide (show Below g w q3 ∧ g ≤ q3.heap.size from ⟨N2, by rw [← hg]; exact N2.size⟩)
  have HPX := hide (unhide HPC nY (by omega))
  have hcl := pickP_lt cut nY (by omega)
  have hf4 := frB_size (Y.extract 0 (pickP cut nY)) (rpF (k : Int)) (strOfNums [(k : Int)]) (by rw [ByteArray.size_extract]; have h1 := (unhide HFY).1.1; have h2 := (unhide HFY).2.2; omega)
  have HC4 := hide (decodeReply_some k (unhide hk9) (Y.extract 0 (pickP cut nY)) (by rw [ByteArray.size_extract]; omega) q3 (unhide HEW q3 N2))
  rw [hf4] at HC4
  generalize pickP cut nY = cY at *
  have ic1 : (0 : Int) ≤ (cY : Int) := by omega
  have ic2 : (cY : Int) ≤ (nY : Int) := by omega
  clear hf4
  clear hby3 hgy3 N1 N2 hy3 H9 HC3
  go_wp2_with (first | refine wpList_store_row rfl 29 (.tmp 33) (.tmp 112) rfl h3 c3.cs rfl rfl 29 #[.int .i64 0, .int .i64 0, .int .i64 0, .int .i64 0, .int .i64 0, .int .i64 0, .string ⟨#[]⟩, .string ⟨#[]⟩, .string ⟨#[]⟩, .string ⟨#[]⟩] (unhide HZ3) size_req rfl (unhide HO3) ?_ | (go_at_call 9; refine (unhide HPX _).mono ?_; rintro e x ⟨rfl, hx⟩; subst x))
  (try rw [hq3])
  clear HPX ic1 ic2 hcl
  refine (unhide HC4).mono ?_
  rintro e y4 ⟨cr4, E4, rfl, hE4, hy4⟩
  have hE4' := hE4 rfl
  subst hE4'
  clear hE4
  have hby4 : Below g w y4 := (unhide H10).1.trans (hy4.mono (unhide H10).2)
  have hgy4 : g ≤ y4.heap.size := Nat.le_trans (unhide H10).2 hy4.size
  obtain ⟨h4, hh4⟩ : ∃ h, y4.heap.size = h := ⟨_, rfl⟩
  obtain ⟨N1, N2⟩ := boxw y4 34 #[.int .i64 0, .int .i64 0, .int .i64 0, .slice none 0 0, .int .i64 0, .slice none 0 0, .string ⟨#[]⟩, .string ⟨#[]⟩] cr4.cs g w hby4 hgy4
  rw [hh4] at N1 N2
  obtain ⟨z4, hz4⟩ : ∃ Z, y4.alloc (.cells #[.int .i64 0, .int .i64 0, .int .i64 0, .slice none 0 0, .int .i64 0, .slice none 0 0, .string ⟨#[]⟩, .string ⟨#[]⟩] 34) = Z := ⟨_, rfl⟩
  rw [hz4] at N1 N2
  have HZ4 := hide N1
  have HO4 := hide (Rep.one cr4)
  obtain ⟨q4, hq4⟩ : ∃ Z, z4.setRow h4 cr4.cs = Z := ⟨_, rfl⟩
  rw [hq4] at N2
  have H11 := hide (show Below g w q4 ∧ g ≤ q4.heap.size from ⟨N2, by rw [← hg]; exact N2.size⟩)
  have hm9 := unhide HM
  have a5 : ¬ 9223372036854775807 < X.size + m.size := by omega
  have a5' : ¬ 9223372036854775807 < nX + m.size := by omega
  have hD5 := fun (q : 0 < m.size) => decE_more X m q kx (unhide HFX).2.2 (unhide HFX).1.2.2.2 (unhide HFX).1.2.2.1
  have HC5 := hide (decodeRequest_any (X ++ m) (by rw [ByteArray.size_append]; omega) q4 (unhide HEW q4 N2))
  generalize decE (X ++ m) = D5 at *
  generalize decR (X ++ m) = c5 at *
  clear hm9
  clear hby4 hgy4 N1 N2 hy4 H10 HC4
  go_wp2_with (first | refine wpList_store_row rfl 34 (.tmp 35) (.tmp 123) rfl h4 cr4.cs rfl rfl 34 #[.int .i64 0, .int .i64 0, .int .i64 0, .slice none 0 0, .int .i64 0, .slice none 0 0, .string ⟨#[]⟩, .string ⟨#[]⟩] (unhide HZ4) size_rep rfl (unhide HO4) ?_)
  (try rw [hq4])
  clear a5 a5'
  refine (unhide HC5).mono ?_
  rintro e y5 ⟨rfl, hy5⟩
  have hby5 : Below g w y5 := (unhide H11).1.trans (hy5.mono (unhide H11).2)
  have hgy5 : g ≤ y5.heap.size := Nat.le_trans (unhide H11).2 hy5.size
  obtain ⟨h5, hh5⟩ : ∃ h, y5.heap.size = h := ⟨_, rfl⟩
  obtain ⟨N1, N2⟩ := boxw y5 29 #[.int .i64 0, .int .i64 0, .int .i64 0, .int .i64 0, .int .i64 0, .int .i64 0, .string ⟨#[]⟩, .string ⟨#[]⟩, .string ⟨#[]⟩, .string ⟨#[]⟩] c5.cs g w hby5 hgy5
  rw [hh5] at N1 N2
  obtain ⟨z5, hz5⟩ : ∃ Z, y5.alloc (.cells #[.int .i64 0, .int .i64 0, .int .i64 0, .int .i64 0, .int .i64 0, .int .i64 0, .string ⟨#[]⟩, .string ⟨#[]⟩, .string ⟨#[]⟩, .string ⟨#[]⟩] 29) = Z := ⟨_, rfl⟩
  rw [hz5] at N1 N2
  have HZ5 := hide N1
  have HO5 := hide (Req.one c5)
  obtain ⟨q5, hq5⟩ : ∃ Z, z5.setRow h5 c5.cs = Z := ⟨_, rfl⟩
  rw [hq5] at N2
  have H12 := hide (show Below g w q5 ∧ g ≤ q5.heap.size from ⟨N2, by rw [← hg]; exact N2.size⟩)
  have hm9 := unhide HM
  have a5 : ¬ 9223372036854775807 < Y.size + m.size := by omega
  have a5' : ¬ 9223372036854775807 < nY + m.size := by omega
  have hf6 : 0 < m.size → frB (Y ++ m) (rpF (k : Int)) (strOfNums [(k : Int)]) = false := fun q => frB_size _ _ _ (by rw [ByteArray.size_append]; have h1 := (unhide HFY).1.1; have h2 := (unhide HFY).2.2; omega)
  have HC6 := hide (decodeReply_some k (unhide hk9) (Y ++ m) (by rw [ByteArray.size_append]; omega) q5 (unhide HEW q5 N2))
  generalize frB (Y ++ m) (rpF (k : Int)) (strOfNums [(k : Int)]) = FB at *
  clear hm9
  clear hby5 hgy5 N1 N2 hy5 H11 HC5
  go_wp2_with (first | refine wpList_store_row rfl 29 (.tmp 37) (.tmp 130) rfl h5 c5.cs rfl rfl 29 #[.int .i64 0, .int .i64 0, .int .i64 0, .int .i64 0, .int .i64 0, .int .i64 0, .string ⟨#[]⟩, .string ⟨#[]⟩, .string ⟨#[]⟩, .string ⟨#[]⟩] (unhide HZ5) size_req rfl (unhide HO5) ?_)
  (try rw [hq5])
  clear a5 a5'
  refine (unhide HC6).mono ?_
  rintro e y6 ⟨cr6, E6, rfl, hE6, hy6⟩
  have hby6 : Below g w y6 := (unhide H12).1.trans (hy6.mono (unhide H12).2)
  have hgy6 : g ≤ y6.heap.size := Nat.le_trans (unhide H12).2 hy6.size
  obtain ⟨h6, hh6⟩ : ∃ h, y6.heap.size = h := ⟨_, rfl⟩
  obtain ⟨N1, N2⟩ := boxw y6 34 #[.int .i64 0, .int .i64 0, .int .i64 0, .slice none 0 0, .int .i64 0, .slice none 0 0, .string ⟨#[]⟩, .string ⟨#[]⟩] cr6.cs g w hby6 hgy6
  rw [hh6] at N1 N2
  obtain ⟨z6, hz6⟩ : ∃ Z, y6.alloc (.cells #[.int .i64 0, .int .i64 0, .int .i64 0, .slice none 0 0, .int .i64 0, .slice none 0 0, .string ⟨#[]⟩, .string ⟨#[]⟩] 34) = Z := ⟨_, rfl⟩
  rw [hz6] at N1 N2
  have HZ6 := hide N1
  have HO6 := hide (Rep.one cr6)
  obtain ⟨q6, hq6⟩ : ∃ Z, z6.setRow h6 cr6.cs = Z := ⟨_, rfl⟩
  rw [hq6] at N2
  have H13 := hide (show Below g w q6 ∧ g ≤ q6.heap.size from ⟨N2, by rw [← hg]; exact N2.size⟩)
  clear hby6 hgy6 N1 N2 hy6 H12 HC6
  have hD6 : 0 < m.size → E6 = 121 := fun q => hE6 (hf6 q)
  have HD5 := hide hD5
  have HD6 := hide hD6
  clear hE6 hf6 hD5 hD6
  by_cases hm0 : m = ⟨#[]⟩
  · subst m
    go_wp2_with (first | refine wpList_store_row rfl 34 (.tmp 39) (.tmp 138) rfl h6 cr6.cs rfl rfl 34 #[.int .i64 0, .int .i64 0, .int .i64 0, .slice none 0 0, .int .i64 0, .slice none 0 0, .string ⟨#[]⟩, .string ⟨#[]⟩] (unhide HZ6) size_rep rfl (unhide HO6) ?_)
    go_ret
    exact ⟨congrArg (fun b => Ending.returned (Value.bool b)) (show (D1 != 0 && D3 != 0) = true by simp [hD1, hD3]), (unhide H13).1⟩
  · have hmp : 0 < m.size := by
      rcases m with ⟨d⟩
      refine Nat.pos_of_ne_zero (fun e => hm0 ?_)
      have : d = #[] := Array.eq_empty_of_size_eq_zero e
      rw [this]
    have e5 := unhide HD5 hmp
    have e6 := unhide HD6 hmp
    subst e5 e6
    go_wp2_with (first | refine wpList_store_row rfl 34 (.tmp 39) (.tmp 138) rfl h6 cr6.cs rfl rfl 34 #[.int .i64 0, .int .i64 0, .int .i64 0, .slice none 0 0, .int .i64 0, .slice none 0 0, .string ⟨#[]⟩, .string ⟨#[]⟩] (unhide HZ6) size_rep rfl (unhide HO6) ?_)
    all_goals (go_ret; exact ⟨congrArg (fun b => Ending.returned (Value.bool b)) (show (D1 != 0 && D3 != 0) = true by simp [hD1, hD3]), (unhide H13).1⟩)
end Go.Proofs.YtpjoibolhkgkhaaGreatDoor
