import Derived.Test.YtclgkgaobjcifaaGreatDoorMy05
import Derived.Laws.StructEq
import Derived.Test.YtclgkgaobjcifaaGreatDoorMy01
import Derived.Test.YtclgkgaobjcifaaGreatDoorMy00
namespace Go.Proofs.YtclgkgaobjcifaaGreatDoor
open Go.RowKit
set_option maxRecDepth 100000
/-- two boxes behind a world -/
theorem two_boxes (wr : World) (A B : Array Value) (S T : TypeId) : Blk ((wr.alloc (.cells A S)).alloc (.cells B T)) wr.heap.size A S ∧ Blk ((wr.alloc (.cells A S)).alloc (.cells B T)) (wr.heap.size + 1) B T ∧ Below wr.heap.size wr ((wr.alloc (.cells A S)).alloc (.cells B T)) ∧ ((wr.alloc (.cells A S)).alloc (.cells B T)).heap.size = wr.heap.size + 2 := by
  have h1 := Blk.new wr S A
  have hs : (wr.alloc (.cells A S)).heap.size = wr.heap.size + 1 := by simp
  have h2 := Blk.new (wr.alloc (.cells A S)) T B
  rw [hs] at h2
  exact ⟨h1.alloc _, h2, ((Below.refl _ _).alloc (Nat.le_refl _) _).alloc (by omega) _, by simp⟩
set_option maxHeartbeats 2000000 in
theorem nlay_any {w wr : World} {base b : Nat} {v : Value} {l : List Int} (h : WPost base b v l 0 w wr) (hb : base ≤ w.heap.size) (bb lo hi : Nat) (h1 : 1 ≤ bb) (h8 : bb ≤ 8) (hfit : (hi : Int) < 2 ^ (8 * bb)) (p : Prt) (hsz : l.length ≤ 1000) :
    Calls Tryz.prog 130 #[.agg #[.int .i64 (bb : Int), .int .i64 (lo : Int), .int .i64 (hi : Int)], .pointer (some ⟨b, 0, none⟩), .agg p.cs] wr fun e w' => e = .returned (.bool (decide ((lo : Int) ≤ p.n ∧ p.n ≤ (hi : Int)))) ∧ WPost base b v (if decide ((lo : Int) ≤ p.n ∧ p.n ≤ (hi : Int)) = true then l ++ numB p.n bb else l) 0 w w' := by
  obtain ⟨n, t, q, m, c⟩ := p
  show Calls Tryz.prog 130 #[.agg #[.int .i64 (bb : Int), .int .i64 (lo : Int), .int .i64 (hi : Int)], .pointer (some ⟨b, 0, none⟩), .agg #[.int .i64 n, .string t, .slice q m c]] wr fun e w' => e = .returned (.bool (decide ((lo : Int) ≤ n ∧ n ≤ (hi : Int)))) ∧ WPost base b v (if decide ((lo : Int) ≤ n ∧ n ≤ (hi : Int)) = true then l ++ numB n bb else l) 0 w w'
  obtain ⟨B1, B2, hbl, hs2⟩ := two_boxes wr #[.int .i64 (bb : Int), .int .i64 (lo : Int), .int .i64 (hi : Int)] #[.int .i64 n, .string t, .slice q m c] 119 103
  obtain ⟨g, hg⟩ : ∃ g, wr.heap.size = g := ⟨_, rfl⟩
  rw [hg] at B1 B2 hs2
  obtain ⟨y, hy⟩ : ∃ Z, (wr.alloc (.cells #[.int .i64 (bb : Int), .int .i64 (lo : Int), .int .i64 (hi : Int)] 119)).alloc (.cells #[.int .i64 n, .string t, .slice q m c] 103) = Z := ⟨_, rfl⟩
  rw [hy] at B1 B2 hbl hs2
  have HM := hide (mayBe_any (bb : Int) (lo : Int) (hi : Int) n)
  have HY := hide (And.intro B1 (And.intro B2 (And.intro (h.below hbl) hs2)))
  have a0 : y.cell? ⟨g, 0, none⟩ = some (.int .i64 (bb : Int)) := by rw [B1.cell]; rfl
  have a1 : y.cell? ⟨g, 1, none⟩ = some (.int .i64 (lo : Int)) := by rw [B1.cell]; rfl
  have a2 : y.cell? ⟨g, 2, none⟩ = some (.int .i64 (hi : Int)) := by rw [B1.cell]; rfl
  have a3 : y.cell? ⟨g + 1, 0, none⟩ = some (.int .i64 n) := by rw [B2.cell]; rfl
  have HFit := hide (fun (hq : (lo : Int) ≤ n ∧ n ≤ (hi : Int)) => (show fitsP n bb from ⟨by omega, Int.ediv_eq_zero_of_lt (by omega) (by omega)⟩))
  clear B1 B2 hbl hs2 h hfit
  by_cases hq : (lo : Int) ≤ n ∧ n ≤ (hi : Int)
  · rw [decide_eq_true hq] at HM ⊢
    rw [if_pos rfl]
    have HFT := hide (unhide HFit hq)
    clear hq HFit
    obtain ⟨l', hl'⟩ : ∃ q, l ++ numB n bb = q := ⟨_, rfl⟩
    have HL' := hide hl'
    rw [hl']
    clear hl'
    go_enter Tryz.func130, Tryz.ntmps130
    go_wp2_with fail
    refine (unhide HM y).mono ?_
    rintro e x ⟨rfl, hx⟩
    obtain ⟨B1, B2, hW, hs2⟩ := unhide HY
    have C1 := B1.below hx (by omega)
    have C2 := B2.below hx (by omega)
    have hWx := hW.below hx
    have b0 : x.cell? ⟨g, 0, none⟩ = some (.int .i64 (bb : Int)) := by rw [C1.cell]; rfl
    have b3 : x.cell? ⟨g + 1, 0, none⟩ = some (.int .i64 n) := by rw [C2.cell]; rfl
    clear a0 a1 a2 a3 hx B1 B2 C1 C2 hW hs2 HY hy
    have HN := hide (wnumK hWx hb bb h1 h8 n (unhide HFT) hsz (bb : Int) rfl _ (unhide HL'))
    clear hWx
    go_wp2_with (go_at_call 29; refine (unhide HN).mono ?_; rintro e z ⟨rfl, hz⟩; have HZ := hide hz; clear hz)
    go_ret
    exact ⟨rfl, unhide HZ⟩
  · rw [decide_eq_false hq] at HM ⊢
    rw [if_neg (by decide)]
    clear hq HFit
    go_enter Tryz.func130, Tryz.ntmps130
    go_wp2_with fail
    refine (unhide HM y).mono ?_
    rintro e x ⟨rfl, hx⟩
    obtain ⟨B1, B2, hW, hs2⟩ := unhide HY
    have C1 := B1.below hx (by omega)
    have C2 := B2.below hx (by omega)
    have hWx := hW.below hx
    have b0 : x.cell? ⟨g, 0, none⟩ = some (.int .i64 (bb : Int)) := by rw [C1.cell]; rfl
    have b3 : x.cell? ⟨g + 1, 0, none⟩ = some (.int .i64 n) := by rw [C2.cell]; rfl
    clear a0 a1 a2 a3 hx B1 B2 C1 C2 hW hs2 HY hy
    have HW := hide hWx
    clear hWx
    go_wp2
    go_ret
    exact ⟨rfl, unhide HW⟩
set_option maxHeartbeats 2000000 in
theorem tlay_any {w wr : World} {base b : Nat} {v : Value} {l : List Int} (h : WPost base b v l 0 w wr) (hb : base ≤ w.heap.size) (bb : Nat) (h8 : bb ≤ 256) (p : Prt) (hsz : l.length ≤ 1000) :
    Calls Tryz.prog 134 #[.agg #[.int .i64 (bb : Int)], .pointer (some ⟨b, 0, none⟩), .agg p.cs] wr fun e w' => e = .returned (.bool (decide (p.t.size = bb))) ∧ WPost base b v (if decide (p.t.size = bb) = true then l ++ nums p.t else l) 0 w w' := by
  obtain ⟨n, t, q, m, c⟩ := p
  show Calls Tryz.prog 134 #[.agg #[.int .i64 (bb : Int)], .pointer (some ⟨b, 0, none⟩), .agg #[.int .i64 n, .string t, .slice q m c]] wr fun e w' => e = .returned (.bool (decide (t.size = bb))) ∧ WPost base b v (if decide (t.size = bb) = true then l ++ nums t else l) 0 w w'
  obtain ⟨B1, B2, hbl, hs2⟩ := two_boxes wr #[.int .i64 (bb : Int)] #[.int .i64 n, .string t, .slice q m c] 128 103
  obtain ⟨g, hg⟩ : ∃ g, wr.heap.size = g := ⟨_, rfl⟩
  rw [hg] at B1 B2 hs2
  obtain ⟨y, hy⟩ : ∃ Z, (wr.alloc (.cells #[.int .i64 (bb : Int)] 128)).alloc (.cells #[.int .i64 n, .string t, .slice q m c] 103) = Z := ⟨_, rfl⟩
  rw [hy] at B1 B2 hbl hs2
  have hWy := h.below hbl
  have a0 : y.cell? ⟨g, 0, none⟩ = some (.int .i64 (bb : Int)) := by rw [B1.cell]; rfl
  have a3 : y.cell? ⟨g + 1, 1, none⟩ = some (.string t) := by rw [B2.cell]; rfl
  clear B1 B2 hbl hs2 h
  by_cases hq : t.size = bb
  · rw [decide_eq_true hq, if_pos rfl]
    have hne : ((t.size : Int) != (bb : Int)) = false := by simp; omega
    have HR := hide (rawK hWy hb t (by omega))
    rw [wl_good] at HR
    clear hq hWy
    generalize l ++ nums t = l' at *
    go_enter Tryz.func134, Tryz.ntmps134
    go_wp2_with (go_at_call 64; refine (unhide HR).mono ?_; rintro e z ⟨rfl, hz⟩; have HZ := hide hz; clear hz)
    go_ret
    exact ⟨rfl, unhide HZ⟩
  · rw [decide_eq_false hq, if_neg (by decide)]
    have hne : ((t.size : Int) != (bb : Int)) = true := by simp; omega
    have HW := hide hWy
    clear hq hWy
    go_enter Tryz.func134, Tryz.ntmps134
    go_wp2
    go_ret
    exact ⟨rfl, unhide HW⟩
end Go.Proofs.YtclgkgaobjcifaaGreatDoor

namespace Go.Proofs.YtclgkgaobjcifaaGreatDoor
open Go.RowKit
set_option maxRecDepth 100000
def eqQ (r s : Req) : Bool := (r.kd == s.kd) && ((r.te == s.te) && ((r.qu == s.qu) && ((r.vo == s.vo) && ((r.bl == s.bl) && ((r.no == s.no) && ((r.di.toList == s.di.toList) && ((r.wr.toList == s.wr.toList) && ((r.sa.toList == s.sa.toList) && (r.da.toList == s.da.toList)))))))))
theorem stood_req : Tryz.prog.stoodInHeld 29 = false := by kernel_rfl
set_option maxHeartbeats 2000000 in
theorem run_eqQ (r s : Req) (w : World) : (binOp .eql 29 (.agg r.cs) (.agg s.cs)).run Tryz.prog w = .ok (.bool (eqQ r s)) w := by
  obtain ⟨kd, te, qu, vo, bl, no, di, wr, sa, da⟩ := r
  obtain ⟨kd', te', qu', vo', bl', no', di', wr', sa', da'⟩ := s
  rw [run_eql_struct, run_equalIn_struct _ _ _ _ _ (by kernel_rfl) stood_req]
  simp [Program.fieldsOf, Tryz.underlying29, go_sem, Req.cs]
  simp only [eqQ]
  (repeat' split) <;> simp [*]
theorem guard_req : Tryz.prog.eqGuardType Tryz.prog.depth 29 = false := by kernel_rfl
theorem wpList_eqQ {ops : Array Oper} {rest : List Oper} {op : Oper} {a : Act} {w : World} {Q : Exit → Act → World → Prop} (hg : op.guard = none) (x y : Operand) (ho : op.op = .binOp .eql 29 x y 29) (r s : Req) (hx : a.eval x = .agg r.cs) (hy : a.eval y = .agg s.cs) (h : wpList Tryz.prog ops Q rest (a.put op.dst (.bool (eqQ r s))) w) : wpList Tryz.prog ops Q (op :: rest) a w :=
  wpList_plain hg fun _ hK => by
    have e := run_eqQ r s w
    have e2 := run_eqGuard_agg (P := Tryz.prog) w .eql 29 x y r.cs s.cs guard_req
    unfold Oper.wp execOp
    simp only [ho, hx, hy, Sem.run_bind, e2, Result.andThen_ok, e, Sem.run_pure]
    exact hK _ _ h
theorem built_req (k : Int) : Tryz.prog.built 29 [(0, .int .i64 k)] = some (Req.bare k).cs := by kernel_rfl
theorem size_req : (Tryz.prog.info? 29).map (·.size) = some 10 := by kernel_rfl
theorem size_prt : (Tryz.prog.info? 103).map (·.size) = some 3 := by kernel_rfl
theorem Req.one (r : Req) : r.cs.all (·.oneCell') = true := by simp [Req.cs, Value.oneCell']
theorem Prt.one (p : Prt) : p.cs.all (·.oneCell') = true := by simp [Prt.cs, Value.oneCell']
/-- what layRequest answers, and lays down -/
def lqB (r : Req) : Bool := match layQ (rqF r.kd) r with | none => false | some x => eqQ x.1 (Req.bare r.kd)
def lqL (r : Req) : List Int := match layQ (rqF r.kd) r with | none => [] | some x => x.2
theorem byF_len {f : Fld} (h : IsQ f) {p : Prt} (hk : okF f p = true) : (byF f p).length = f.b := by
  rcases h with rfl | rfl | rfl | rfl | rfl | rfl | rfl | rfl | rfl
  · exact numB_len _ _
  · exact numB_len _ _
  · exact numB_len _ _
  · exact numB_len _ _
  · exact numB_len _ _
  all_goals (
    have hk' := of_decide_eq_true (show decide (p.t.size = _) = true from hk)
    exact (nums_len _).trans hk')
def Req.cl (r : Req) : List Value := [.int .i64 r.kd, .int .i64 r.te, .int .i64 r.qu, .int .i64 r.vo, .int .i64 r.bl, .int .i64 r.no, .string r.di, .string r.wr, .string r.sa, .string r.da]
def Prt.cl (p : Prt) : List Value := [.int .i64 p.n, .string p.t, .slice p.p p.m p.c]
theorem WPost.turn {w wr : World} {base b g : Nat} {v : Value} {l : List Int} {e : Int} {old cells : Array Value} {T : TypeId} (h : WPost base b v l e w wr) (hB : Blk wr g old T) (hT : T ≠ 5) (hg : w.heap.size ≤ g) (hb : b < w.heap.size) : WPost base b v l e w (wr.setRow g cells) := by
  obtain ⟨v1, h1, h2, h3⟩ := h
  have hO : Only (fun k => k = g) wr (wr.setRow g cells) := only_setRow g cells rfl
  refine ⟨v1, h1.only hO (fun k hk hkg => ?_), h2.trans hO (fun k hk hkg => ?_), h3⟩
  · have hkg' : k = g := hkg
    subst hkg'
    rcases hk with hk | hk
    · omega
    · exact hB.not_row hT h1.2.1 hk
  · have hkg' : k = g := hkg
    omega
theorem fp_blk {wr : World} {base b g : Nat} {v1 : Value} {l : List Int} {e : Int} {cur : Array Value} {T : TypeId} (h1 : Wtr wr base b v1 l e) (hB : Blk wr g cur T) (hT : T ≠ 5) (hg : b ≠ g) : ¬ Fp b v1 g := by
  rintro (hk | hk)
  · exact hg hk.symm
  · exact hB.not_row hT h1.2.1 hk
set_option maxHeartbeats 8000000 in
theorem layRequest_any (r : Req) (w : World) (base b : Nat) (v : Value) (l : List Int) (hW : Wtr w base b v l 0) (hb : base ≤ w.heap.size) (hl : l.length ≤ 100) :
    Calls Tryz.prog 30 #[.pointer (some ⟨b, 0, none⟩), .agg r.cs] w fun e w' => ∃ l', e = .returned (.bool (lqB r)) ∧ WPost base b v l' 0 w w' ∧ (lqB r = true → l' = l ++ lqL r) := by
  obtain ⟨g, hg⟩ : ∃ g, w.heap.size = g := ⟨_, rfl⟩
  obtain ⟨kd, hkd⟩ : ∃ q, r.kd = q := ⟨_, rfl⟩
  obtain ⟨y, hy⟩ : ∃ Z, w.alloc (.cells r.cs 29) = Z := ⟨_, rfl⟩
  have BY : Blk y g r.cs 29 := by rw [← hy, ← hg]; exact Blk.new w _ _
  have hby : Below g w y := by rw [← hy, ← hg]; exact (Below.refl _ w).alloc (Nat.le_refl _) _
  have hsy : y.heap.size = g + 1 := by rw [← hy, ← hg]; simp
  have hbg : b < g := by rw [← hg]; exact hW.lt
  have c0 : y.cell? ⟨g, 0, none⟩ = some (.int .i64 kd) := by rw [BY.cell, ← hkd]; rfl
  have hWy : WPost base b v l 0 w y := (WPost.refl hW).below (by rw [hg]; exact hby)
  have HF := hide (rqf_any kd)
  have HA := hide (rqF_all kd)
  have HLEN := hide (rqF_len kd)
  have HLB := hide (show lqB r = match layQ (rqF kd) r with | none => false | some x => eqQ x.1 (Req.bare kd) by unfold lqB; rw [hkd])
  have HLL := hide (show lqL r = match layQ (rqF kd) r with | none => [] | some x => x.2 by unfold lqL; rw [hkd])
  have HY := hide (And.intro BY (And.intro hWy hsy))
  have HW := hide hW
  obtain ⟨rc, hrc⟩ : ∃ Z, r.cs = Z := ⟨_, rfl⟩
  have HRC := hide hrc
  rw [hrc] at hy ⊢
  generalize lqB r = RB at *
  generalize lqL r = RL at *
  generalize rqF kd = fs at *
  clear BY hby hsy hWy hW hkd hrc
  go_enter Tryz.func30, Tryz.ntmps30
  go_wp2_with fail
  clear hy
  refine (unhide HF y).mono ?_
  rintro e x ⟨fvv, rfl, hR, hx⟩
  obtain ⟨p, rfl, hp⟩ := hR.form
  obtain ⟨BY, hWy, hsy⟩ := unhide HY
  have BX := BY.below hx (by omega)
  have hWx := hWy.below hx
  have hgx : g < x.heap.size := BX.lt
  have HX := hide (And.intro BX (And.intro hWx hR))
  have HP := hide hp
  obtain ⟨n, hn⟩ : ∃ n, fs.length = n := ⟨_, rfl⟩
  have HN := hide hn
  have HPB := hide (show ∀ q, p = some q → q.block < x.heap.size by
    intro q hq
    have := hR.lt q.block (by rw [hq]; rfl)
    exact this)
  rw [hn]
  clear hp hR BY hWy hsy BX hWx hx hn c0 HY
  go_wp2_with fail
  go_loopw [14] (fun i wr => ∃ (k : Nat) (rk : Req) (lk : List Int), k ≤ n ∧ i = .int .i64 (k : Int) ∧ layQ fs r = (layQ (fs.drop k) rk).map (fun z => (z.1, lk ++ z.2)) ∧ Blk wr g rk.cs 29 ∧ FR wr (.slice p n n) fs ∧ WPost base b v (l ++ lk) 0 w wr ∧ lk.length ≤ 256 * k) (fun i _ => n - (intOf i).toNat)
  case atStart =>
    obtain ⟨BX, hWx, hR⟩ := unhide HX
    refine ⟨0, r, [], Nat.zero_le _, rfl, ?_, BX, by rw [← unhide HN]; rwa [unhide HN] at hR ⊢, by rw [List.append_nil]; exact hWx, by simp⟩
    rw [List.drop_zero]
    cases layQ fs r with
    | none => rfl
    | some z => simp
  case round =>
    obtain ⟨k, rk, lk, hk, rfl, hlq, BK, hRk, hWk, hlk⟩ := hrel
    by_cases hkn : k < n
    · have hkn' : (k : Int) < (n : Int) := by omega
      have hk0 : (0 : Int) ≤ (k : Int) := by omega
      have hlen := unhide HN
      have hn4 := unhide HLEN
      have hRk' := hRk
      obtain ⟨q, hq, hqb⟩ := FR.form (show FR wr (.slice p fs.length fs.length) fs by rw [hlen]; exact hRk)
      obtain ⟨fb, hqe, Bf⟩ := hqb (by omega)
      obtain rfl : p = q := by simpa using hq
      subst hqe
      have hf : IsQ (fs[k]'(by omega)) := unhide HA _ (List.getElem_mem _)
      have hc : wr.cell? ⟨fb, k, none⟩ = some (fv (fs[k]'(by omega))) := fr_cell Bf k (by omega)
      have hdrop : fs.drop k = fs[k]'(by omega) :: fs.drop (k + 1) := (List.getElem_cons_drop (by omega)).symm
      rw [hdrop] at hlq
      have HLQ := hide hlq
      clear hdrop hq
      generalize fs[k]'(by omega) = f at *
      obtain ⟨h, hh⟩ : ∃ h, wr.heap.size = h := ⟨_, rfl⟩
      obtain ⟨y1, hy1⟩ : ∃ Z, wr.alloc (.cells #[.int .i64 0, .string ⟨#[]⟩, .slice none 0 0] 103) = Z := ⟨_, rfl⟩
      have hb1 : Below h wr y1 := by rw [← hy1, ← hh]; exact (Below.refl _ wr).alloc (Nat.le_refl _) _
      have BZ1 : Blk y1 h #[.int .i64 0, .string ⟨#[]⟩, .slice none 0 0] 103 := by rw [← hy1, ← hh]; exact Blk.new wr _ _
      have hgh : g < h := by rw [← hh]; exact BK.lt
      have hfh : fb < h := by rw [← hh]; exact Bf.lt
      have BK1 := BK.below hb1 hgh
      have Bf1 := Bf.below hb1 hfh
      have hW1 := hWk.below (by rw [hh]; exact hb1)
      have HRG := hide (show y1.rangeAt g 0 rk.cl from blk_range BK1)
      have HY1 := hide (And.intro BK1 (And.intro Bf1 (And.intro BZ1 hW1)))
      have HK1 := hide hlk
      have HHF := hide hf
      have hs1 : y1.heap.size = h + 1 := by rw [← hy1, ← hh]; simp
      have HS1 := hide hs1
      clear hb1 BZ1 BK1 Bf1 hW1 BK Bf hRk hRk' hWk hlq hlk hqb hs1 hf
      go_wp2_with (refine wpList_load_mid rfl 29 (.tmp 3) rfl g 0 rfl rk.cl _ (unhide HRG) Tryz.underlying29 rfl size_req ?_)
      clear hy1
      refine (exq_any f (unhide HHF) rk Prt.nil _).mono ?_
      rintro e x2 ⟨rfl, hx2⟩
      obtain ⟨BK1, Bf1, BZ1, hW1⟩ := unhide HY1
      have hlq := unhide HLQ
      have hs1 := unhide HS1
      obtain ⟨r2, hr2⟩ : ∃ Z, (exq f rk Prt.nil).1 = Z := ⟨_, rfl⟩
      obtain ⟨p2, hp2⟩ : ∃ Z, (exq f rk Prt.nil).2 = Z := ⟨_, rfl⟩
      rw [hr2, hp2]
      have hlay : layQ (f :: fs.drop (k + 1)) rk = if okF f p2 then (layQ (fs.drop (k + 1)) r2).map (fun z => (z.1, byF f p2 ++ z.2)) else none := by
        rw [layQ, hr2, hp2]
      rw [hlay] at hlq
      clear hlay hr2 hp2
      have BK2 := BK1.below hx2 BK1.lt
      have Bf2 := Bf1.below hx2 Bf1.lt
      have BZ2 := BZ1.below hx2 BZ1.lt
      have hW2 := hW1.below hx2
      have hfg : fb ≠ g := by
        intro e
        subst e
        have e1 := (show x2.heap[fb]? = _ from Bf2).symm.trans (show x2.heap[fb]? = _ from BK2)
        injection e1 with e1
        injection e1 with _ e2 _
        exact absurd e2 (by decide)
      have hT1 : (29 : Nat) ≠ 5 := by decide
      have hT2 : (103 : Nat) ≠ 5 := by decide
      have hT3 : (101 : Nat) ≠ 5 := by decide
      have BK3 : Blk (x2.setRow g r2.cs) g r2.cs 29 := blk_setRow BK2
      have Bf3 : Blk (x2.setRow g r2.cs) fb _ _ := blk_setRow_other Bf2 (Ne.symm hfg)
      have BZ3 : Blk (x2.setRow g r2.cs) h _ _ := blk_setRow_other BZ2 (by omega)
      have hW3 : WPost base b v (l ++ lk) 0 w (x2.setRow g r2.cs) := hW2.turn BK2 hT1 (by omega) (by omega)
      have BK4 : Blk ((x2.setRow g r2.cs).setRow h p2.cs) g r2.cs 29 := blk_setRow_other BK3 (by omega)
      have Bf4 : Blk ((x2.setRow g r2.cs).setRow h p2.cs) fb _ _ := blk_setRow_other Bf3 (by omega)
      have BP4 : Blk ((x2.setRow g r2.cs).setRow h p2.cs) h p2.cs 103 := blk_setRow BZ3
      have hW4 : WPost base b v (l ++ lk) 0 w ((x2.setRow g r2.cs).setRow h p2.cs) := hW3.turn BZ3 hT2 (by omega) (by omega)
      obtain ⟨x3, hx3⟩ : ∃ Z, x2.setRow g r2.cs = Z := ⟨_, rfl⟩
      have HZ2 := hide BK2
      have HZ3 := hide BZ3
      rw [hx3] at BK4 Bf4 BP4 hW4
      obtain ⟨x4, hx4⟩ : ∃ Z, x3.setRow h p2.cs = Z := ⟨_, rfl⟩
      rw [hx4] at BK4 Bf4 BP4 hW4
      have HRP := hide (show x4.rangeAt h 0 p2.cl from blk_range BP4)
      obtain ⟨v1, h1, h2, h3⟩ := hW4
      have hbx : base ≤ x4.heap.size := Nat.le_trans hb h2.size
      have hlk := unhide HK1
      have hlen2 : (l ++ lk).length ≤ 1000 := by rw [List.length_append]; omega
      have hkey : ∀ (l' : List Int) (z : World), WPost base b v1 l' 0 x4 z → Blk z g r2.cs 29 ∧ FR z (.slice (some ⟨fb, 0, none⟩) n n) fs ∧ WPost base b v l' 0 w z := by
        intro l' z hz
        refine ⟨hz.blk BK4 (fp_blk h1 BK4 hT1 (by omega)), .inr ⟨fb, by rw [hlen], hz.blk Bf4 (fp_blk h1 Bf4 hT3 ?_)⟩, WPost.trans h2 h3 hz⟩
        intro e
        have e1 := (show x4.heap[fb]? = _ from Bf4).symm.trans (show x4.heap[fb]? = _ from e ▸ h1.1)
        injection e1 with e1
        injection e1 with _ e2 _
        exact absurd e2 (by decide)
      have hwk : IntKind.i64.wrap ((k : Int) + 1) = ((k + 1 : Nat) : Int) := by rw [wrapI_eq _ (by omega) (by omega)]; omega
      have HKEY := hide hkey
      clear hkey BK1 Bf1 BZ1 hW1 BK2 Bf2 BZ2 hW2 BK3 Bf3 BZ3 hW3 BK4 Bf4 BP4 h2 h3 hx2 hfg HY1 hlk HLQ
      have HO1 := hide (Req.one r2)
      have HO2 := hide (Prt.one p2)
      have hfv : fv f = .iface f.ty (.agg f.cs) := rfl
      rw [hfv]
      clear hfv
      go_wp2_with (first | refine wpList_store_row rfl 29 (.tmp 3) (.tmp 23) rfl g r2.cs rfl rfl 29 rk.cs (unhide HZ2) size_req rfl (unhide HO1) ?_ | refine wpList_store_row rfl 103 (.tmp 8) (.tmp 24) rfl h p2.cs rfl rfl 103 #[.int .i64 0, .string ⟨#[]⟩, .slice none 0 0] (unhide HZ3) size_prt rfl (unhide HO2) ?_ | refine wpList_load_mid rfl 103 (.tmp 8) rfl h 0 rfl p2.cl _ (unhide HRP) Tryz.underlying103 rfl size_prt ?_)
      have hf := unhide HHF
      have HBF := hide (fun (q : okF f p2 = true) => byF_len hf q)
      have HB256 := hide (isF_b hf.isF).2
      by_cases hok : okF f p2 = true
      · have HLQ2 := hide (show layQ fs r = (layQ (fs.drop (k + 1)) r2).map (fun z => (z.1, (lk ++ byF f p2) ++ z.2)) by
          rw [hlq, if_pos hok, Option.map_map]
          congr 1
          funext z
          simp)
        have HLK2 := hide (show (lk ++ byF f p2).length ≤ 256 * (k + 1) by
          rw [List.length_append, unhide HBF hok]
          have := unhide HB256
          have := unhide HK1
          omega)
        clear hlq HHF HBF HB256
        rcases hf with rfl | rfl | rfl | rfl | rfl | rfl | rfl | rfl | rfl
        · have HC := hide (show Calls Tryz.prog 130 #[.agg #[.int .i64 1, .int .i64 1, .int .i64 8], .pointer (some ⟨b, 0, none⟩), .agg p2.cl.toArray] x4 fun e w' => e = .returned (.bool (okF fTen p2)) ∧ WPost base b v1 (if okF fTen p2 = true then l ++ lk ++ byF fTen p2 else l ++ lk) 0 x4 w' from nlay_any (WPost.refl h1) hbx 1 1 8 (by decide) (by decide) (by decide) p2 hlen2)
          rw [hok] at HC
          clear h1 hbx hlen2
          go_wp2_with (first | (go_at_call 130; refine (unhide HC).mono ?_; rintro e z ⟨rfl, hz⟩; have HZ := hide hz; clear hz))
          obtain ⟨q1, q2, q3⟩ := unhide HKEY (l ++ lk ++ byF fTen p2) z (unhide HZ)
          exact ⟨⟨k + 1, r2, lk ++ byF fTen p2, by omega, rfl, unhide HLQ2, q1, q2, by rw [← List.append_assoc]; exact q3, unhide HLK2⟩, by simp [intOf]; omega⟩
        · have HC := hide (show Calls Tryz.prog 130 #[.agg #[.int .i64 2, .int .i64 0, .int .i64 65535], .pointer (some ⟨b, 0, none⟩), .agg p2.cl.toArray] x4 fun e w' => e = .returned (.bool (okF fQuo p2)) ∧ WPost base b v1 (if okF fQuo p2 = true then l ++ lk ++ byF fQuo p2 else l ++ lk) 0 x4 w' from nlay_any (WPost.refl h1) hbx 2 0 65535 (by decide) (by decide) (by decide) p2 hlen2)
          rw [hok] at HC
          clear h1 hbx hlen2
          go_wp2_with (first | (go_at_call 130; refine (unhide HC).mono ?_; rintro e z ⟨rfl, hz⟩; have HZ := hide hz; clear hz))
          obtain ⟨q1, q2, q3⟩ := unhide HKEY (l ++ lk ++ byF fQuo p2) z (unhide HZ)
          exact ⟨⟨k + 1, r2, lk ++ byF fQuo p2, by omega, rfl, unhide HLQ2, q1, q2, by rw [← List.append_assoc]; exact q3, unhide HLK2⟩, by simp [intOf]; omega⟩
        · have HC := hide (show Calls Tryz.prog 130 #[.agg #[.int .i64 1, .int .i64 1, .int .i64 99], .pointer (some ⟨b, 0, none⟩), .agg p2.cl.toArray] x4 fun e w' => e = .returned (.bool (okF fVol p2)) ∧ WPost base b v1 (if okF fVol p2 = true then l ++ lk ++ byF fVol p2 else l ++ lk) 0 x4 w' from nlay_any (WPost.refl h1) hbx 1 1 99 (by decide) (by decide) (by decide) p2 hlen2)
          rw [hok] at HC
          clear h1 hbx hlen2
          go_wp2_with (first | (go_at_call 130; refine (unhide HC).mono ?_; rintro e z ⟨rfl, hz⟩; have HZ := hide hz; clear hz))
          obtain ⟨q1, q2, q3⟩ := unhide HKEY (l ++ lk ++ byF fVol p2) z (unhide HZ)
          exact ⟨⟨k + 1, r2, lk ++ byF fVol p2, by omega, rfl, unhide HLQ2, q1, q2, by rw [← List.append_assoc]; exact q3, unhide HLK2⟩, by simp [intOf]; omega⟩
        · have HC := hide (show Calls Tryz.prog 130 #[.agg #[.int .i64 1, .int .i64 0, .int .i64 255], .pointer (some ⟨b, 0, none⟩), .agg p2.cl.toArray] x4 fun e w' => e = .returned (.bool (okF fBlo p2)) ∧ WPost base b v1 (if okF fBlo p2 = true then l ++ lk ++ byF fBlo p2 else l ++ lk) 0 x4 w' from nlay_any (WPost.refl h1) hbx 1 0 255 (by decide) (by decide) (by decide) p2 hlen2)
          rw [hok] at HC
          clear h1 hbx hlen2
          go_wp2_with (first | (go_at_call 130; refine (unhide HC).mono ?_; rintro e z ⟨rfl, hz⟩; have HZ := hide hz; clear hz))
          obtain ⟨q1, q2, q3⟩ := unhide HKEY (l ++ lk ++ byF fBlo p2) z (unhide HZ)
          exact ⟨⟨k + 1, r2, lk ++ byF fBlo p2, by omega, rfl, unhide HLQ2, q1, q2, by rw [← List.append_assoc]; exact q3, unhide HLK2⟩, by simp [intOf]; omega⟩
        · have HC := hide (show Calls Tryz.prog 130 #[.agg #[.int .i64 4, .int .i64 0, .int .i64 4294967295], .pointer (some ⟨b, 0, none⟩), .agg p2.cl.toArray] x4 fun e w' => e = .returned (.bool (okF fNon p2)) ∧ WPost base b v1 (if okF fNon p2 = true then l ++ lk ++ byF fNon p2 else l ++ lk) 0 x4 w' from nlay_any (WPost.refl h1) hbx 4 0 4294967295 (by decide) (by decide) (by decide) p2 hlen2)
          rw [hok] at HC
          clear h1 hbx hlen2
          go_wp2_with (first | (go_at_call 130; refine (unhide HC).mono ?_; rintro e z ⟨rfl, hz⟩; have HZ := hide hz; clear hz))
          obtain ⟨q1, q2, q3⟩ := unhide HKEY (l ++ lk ++ byF fNon p2) z (unhide HZ)
          exact ⟨⟨k + 1, r2, lk ++ byF fNon p2, by omega, rfl, unhide HLQ2, q1, q2, by rw [← List.append_assoc]; exact q3, unhide HLK2⟩, by simp [intOf]; omega⟩
        · have HC := hide (show Calls Tryz.prog 134 #[.agg #[.int .i64 32], .pointer (some ⟨b, 0, none⟩), .agg p2.cl.toArray] x4 fun e w' => e = .returned (.bool (okF fDig p2)) ∧ WPost base b v1 (if okF fDig p2 = true then l ++ lk ++ byF fDig p2 else l ++ lk) 0 x4 w' from tlay_any (WPost.refl h1) hbx 32 (by decide) p2 hlen2)
          rw [hok] at HC
          clear h1 hbx hlen2
          go_wp2_with (first | (go_at_call 134; refine (unhide HC).mono ?_; rintro e z ⟨rfl, hz⟩; have HZ := hide hz; clear hz))
          obtain ⟨q1, q2, q3⟩ := unhide HKEY (l ++ lk ++ byF fDig p2) z (unhide HZ)
          exact ⟨⟨k + 1, r2, lk ++ byF fDig p2, by omega, rfl, unhide HLQ2, q1, q2, by rw [← List.append_assoc]; exact q3, unhide HLK2⟩, by simp [intOf]; omega⟩
        · have HC := hide (show Calls Tryz.prog 134 #[.agg #[.int .i64 48], .pointer (some ⟨b, 0, none⟩), .agg p2.cl.toArray] x4 fun e w' => e = .returned (.bool (okF fWra p2)) ∧ WPost base b v1 (if okF fWra p2 = true then l ++ lk ++ byF fWra p2 else l ++ lk) 0 x4 w' from tlay_any (WPost.refl h1) hbx 48 (by decide) p2 hlen2)
          rw [hok] at HC
          clear h1 hbx hlen2
          go_wp2_with (first | (go_at_call 134; refine (unhide HC).mono ?_; rintro e z ⟨rfl, hz⟩; have HZ := hide hz; clear hz))
          obtain ⟨q1, q2, q3⟩ := unhide HKEY (l ++ lk ++ byF fWra p2) z (unhide HZ)
          exact ⟨⟨k + 1, r2, lk ++ byF fWra p2, by omega, rfl, unhide HLQ2, q1, q2, by rw [← List.append_assoc]; exact q3, unhide HLK2⟩, by simp [intOf]; omega⟩
        · have HC := hide (show Calls Tryz.prog 134 #[.agg #[.int .i64 8], .pointer (some ⟨b, 0, none⟩), .agg p2.cl.toArray] x4 fun e w' => e = .returned (.bool (okF fSam p2)) ∧ WPost base b v1 (if okF fSam p2 = true then l ++ lk ++ byF fSam p2 else l ++ lk) 0 x4 w' from tlay_any (WPost.refl h1) hbx 8 (by decide) p2 hlen2)
          rw [hok] at HC
          clear h1 hbx hlen2
          go_wp2_with (first | (go_at_call 134; refine (unhide HC).mono ?_; rintro e z ⟨rfl, hz⟩; have HZ := hide hz; clear hz))
          obtain ⟨q1, q2, q3⟩ := unhide HKEY (l ++ lk ++ byF fSam p2) z (unhide HZ)
          exact ⟨⟨k + 1, r2, lk ++ byF fSam p2, by omega, rfl, unhide HLQ2, q1, q2, by rw [← List.append_assoc]; exact q3, unhide HLK2⟩, by simp [intOf]; omega⟩
        · have HC := hide (show Calls Tryz.prog 134 #[.agg #[.int .i64 256], .pointer (some ⟨b, 0, none⟩), .agg p2.cl.toArray] x4 fun e w' => e = .returned (.bool (okF fDat p2)) ∧ WPost base b v1 (if okF fDat p2 = true then l ++ lk ++ byF fDat p2 else l ++ lk) 0 x4 w' from tlay_any (WPost.refl h1) hbx 256 (by decide) p2 hlen2)
          rw [hok] at HC
          clear h1 hbx hlen2
          go_wp2_with (first | (go_at_call 134; refine (unhide HC).mono ?_; rintro e z ⟨rfl, hz⟩; have HZ := hide hz; clear hz))
          obtain ⟨q1, q2, q3⟩ := unhide HKEY (l ++ lk ++ byF fDat p2) z (unhide HZ)
          exact ⟨⟨k + 1, r2, lk ++ byF fDat p2, by omega, rfl, unhide HLQ2, q1, q2, by rw [← List.append_assoc]; exact q3, unhide HLK2⟩, by simp [intOf]; omega⟩
      · have hok : okF f p2 = false := by simpa using hok
        have HRB := hide (show RB = false by
          have hb := unhide HLB
          rw [hlq, if_neg (by rw [hok]; decide)] at hb
          exact hb)
        clear hlq HHF HBF HB256
        rcases hf with rfl | rfl | rfl | rfl | rfl | rfl | rfl | rfl | rfl
        · have HC := hide (show Calls Tryz.prog 130 #[.agg #[.int .i64 1, .int .i64 1, .int .i64 8], .pointer (some ⟨b, 0, none⟩), .agg p2.cl.toArray] x4 fun e w' => e = .returned (.bool (okF fTen p2)) ∧ WPost base b v1 (if okF fTen p2 = true then l ++ lk ++ byF fTen p2 else l ++ lk) 0 x4 w' from nlay_any (WPost.refl h1) hbx 1 1 8 (by decide) (by decide) (by decide) p2 hlen2)
          rw [hok] at HC
          clear h1 hbx hlen2
          go_wp2_with (first | (go_at_call 130; refine (unhide HC).mono ?_; rintro e z ⟨rfl, hz⟩; have HZ := hide hz; clear hz))
          go_ret
          exact ⟨l ++ lk, by rw [unhide HRB]; rfl, (unhide HKEY (l ++ lk) z (unhide HZ)).2.2, fun q => absurd ((unhide HRB).symm.trans q) (by decide)⟩
        · have HC := hide (show Calls Tryz.prog 130 #[.agg #[.int .i64 2, .int .i64 0, .int .i64 65535], .pointer (some ⟨b, 0, none⟩), .agg p2.cl.toArray] x4 fun e w' => e = .returned (.bool (okF fQuo p2)) ∧ WPost base b v1 (if okF fQuo p2 = true then l ++ lk ++ byF fQuo p2 else l ++ lk) 0 x4 w' from nlay_any (WPost.refl h1) hbx 2 0 65535 (by decide) (by decide) (by decide) p2 hlen2)
          rw [hok] at HC
          clear h1 hbx hlen2
          go_wp2_with (first | (go_at_call 130; refine (unhide HC).mono ?_; rintro e z ⟨rfl, hz⟩; have HZ := hide hz; clear hz))
          go_ret
          exact ⟨l ++ lk, by rw [unhide HRB]; rfl, (unhide HKEY (l ++ lk) z (unhide HZ)).2.2, fun q => absurd ((unhide HRB).symm.trans q) (by decide)⟩
        · have HC := hide (show Calls Tryz.prog 130 #[.agg #[.int .i64 1, .int .i64 1, .int .i64 99], .pointer (some ⟨b, 0, none⟩), .agg p2.cl.toArray] x4 fun e w' => e = .returned (.bool (okF fVol p2)) ∧ WPost base b v1 (if okF fVol p2 = true then l ++ lk ++ byF fVol p2 else l ++ lk) 0 x4 w' from nlay_any (WPost.refl h1) hbx 1 1 99 (by decide) (by decide) (by decide) p2 hlen2)
          rw [hok] at HC
          clear h1 hbx hlen2
          go_wp2_with (first | (go_at_call 130; refine (unhide HC).mono ?_; rintro e z ⟨rfl, hz⟩; have HZ := hide hz; clear hz))
          go_ret
          exact ⟨l ++ lk, by rw [unhide HRB]; rfl, (unhide HKEY (l ++ lk) z (unhide HZ)).2.2, fun q => absurd ((unhide HRB).symm.trans q) (by decide)⟩
        · have HC := hide (show Calls Tryz.prog 130 #[.agg #[.int .i64 1, .int .i64 0, .int .i64 255], .pointer (some ⟨b, 0, none⟩), .agg p2.cl.toArray] x4 fun e w' => e = .returned (.bool (okF fBlo p2)) ∧ WPost base b v1 (if okF fBlo p2 = true then l ++ lk ++ byF fBlo p2 else l ++ lk) 0 x4 w' from nlay_any (WPost.refl h1) hbx 1 0 255 (by decide) (by decide) (by decide) p2 hlen2)
          rw [hok] at HC
          clear h1 hbx hlen2
          go_wp2_with (first | (go_at_call 130; refine (unhide HC).mono ?_; rintro e z ⟨rfl, hz⟩; have HZ := hide hz; clear hz))
          go_ret
          exact ⟨l ++ lk, by rw [unhide HRB]; rfl, (unhide HKEY (l ++ lk) z (unhide HZ)).2.2, fun q => absurd ((unhide HRB).symm.trans q) (by decide)⟩
        · have HC := hide (show Calls Tryz.prog 130 #[.agg #[.int .i64 4, .int .i64 0, .int .i64 4294967295], .pointer (some ⟨b, 0, none⟩), .agg p2.cl.toArray] x4 fun e w' => e = .returned (.bool (okF fNon p2)) ∧ WPost base b v1 (if okF fNon p2 = true then l ++ lk ++ byF fNon p2 else l ++ lk) 0 x4 w' from nlay_any (WPost.refl h1) hbx 4 0 4294967295 (by decide) (by decide) (by decide) p2 hlen2)
          rw [hok] at HC
          clear h1 hbx hlen2
          go_wp2_with (first | (go_at_call 130; refine (unhide HC).mono ?_; rintro e z ⟨rfl, hz⟩; have HZ := hide hz; clear hz))
          go_ret
          exact ⟨l ++ lk, by rw [unhide HRB]; rfl, (unhide HKEY (l ++ lk) z (unhide HZ)).2.2, fun q => absurd ((unhide HRB).symm.trans q) (by decide)⟩
        · have HC := hide (show Calls Tryz.prog 134 #[.agg #[.int .i64 32], .pointer (some ⟨b, 0, none⟩), .agg p2.cl.toArray] x4 fun e w' => e = .returned (.bool (okF fDig p2)) ∧ WPost base b v1 (if okF fDig p2 = true then l ++ lk ++ byF fDig p2 else l ++ lk) 0 x4 w' from tlay_any (WPost.refl h1) hbx 32 (by decide) p2 hlen2)
          rw [hok] at HC
          clear h1 hbx hlen2
          go_wp2_with (first | (go_at_call 134; refine (unhide HC).mono ?_; rintro e z ⟨rfl, hz⟩; have HZ := hide hz; clear hz))
          go_ret
          exact ⟨l ++ lk, by rw [unhide HRB]; rfl, (unhide HKEY (l ++ lk) z (unhide HZ)).2.2, fun q => absurd ((unhide HRB).symm.trans q) (by decide)⟩
        · have HC := hide (show Calls Tryz.prog 134 #[.agg #[.int .i64 48], .pointer (some ⟨b, 0, none⟩), .agg p2.cl.toArray] x4 fun e w' => e = .returned (.bool (okF fWra p2)) ∧ WPost base b v1 (if okF fWra p2 = true then l ++ lk ++ byF fWra p2 else l ++ lk) 0 x4 w' from tlay_any (WPost.refl h1) hbx 48 (by decide) p2 hlen2)
          rw [hok] at HC
          clear h1 hbx hlen2
          go_wp2_with (first | (go_at_call 134; refine (unhide HC).mono ?_; rintro e z ⟨rfl, hz⟩; have HZ := hide hz; clear hz))
          go_ret
          exact ⟨l ++ lk, by rw [unhide HRB]; rfl, (unhide HKEY (l ++ lk) z (unhide HZ)).2.2, fun q => absurd ((unhide HRB).symm.trans q) (by decide)⟩
        · have HC := hide (show Calls Tryz.prog 134 #[.agg #[.int .i64 8], .pointer (some ⟨b, 0, none⟩), .agg p2.cl.toArray] x4 fun e w' => e = .returned (.bool (okF fSam p2)) ∧ WPost base b v1 (if okF fSam p2 = true then l ++ lk ++ byF fSam p2 else l ++ lk) 0 x4 w' from tlay_any (WPost.refl h1) hbx 8 (by decide) p2 hlen2)
          rw [hok] at HC
          clear h1 hbx hlen2
          go_wp2_with (first | (go_at_call 134; refine (unhide HC).mono ?_; rintro e z ⟨rfl, hz⟩; have HZ := hide hz; clear hz))
          go_ret
          exact ⟨l ++ lk, by rw [unhide HRB]; rfl, (unhide HKEY (l ++ lk) z (unhide HZ)).2.2, fun q => absurd ((unhide HRB).symm.trans q) (by decide)⟩
        · have HC := hide (show Calls Tryz.prog 134 #[.agg #[.int .i64 256], .pointer (some ⟨b, 0, none⟩), .agg p2.cl.toArray] x4 fun e w' => e = .returned (.bool (okF fDat p2)) ∧ WPost base b v1 (if okF fDat p2 = true then l ++ lk ++ byF fDat p2 else l ++ lk) 0 x4 w' from tlay_any (WPost.refl h1) hbx 256 (by decide) p2 hlen2)
          rw [hok] at HC
          clear h1 hbx hlen2
          go_wp2_with (first | (go_at_call 134; refine (unhide HC).mono ?_; rintro e z ⟨rfl, hz⟩; have HZ := hide hz; clear hz))
          go_ret
          exact ⟨l ++ lk, by rw [unhide HRB]; rfl, (unhide HKEY (l ++ lk) z (unhide HZ)).2.2, fun q => absurd ((unhide HRB).symm.trans q) (by decide)⟩
    · obtain rfl : k = n := by omega
      have hkn' : ¬ (k : Int) < (k : Int) := by omega
      have hd : fs.drop k = [] := List.drop_eq_nil_of_le (by rw [unhide HN]; omega)
      rw [hd] at hlq
      have hlq' : layQ fs r = some (rk, lk) := by rw [hlq]; simp [layQ]
      have HRB := hide (show RB = eqQ rk (Req.bare kd) by have hb := unhide HLB; rw [hlq'] at hb; exact hb)
      have HRL := hide (show RL = lk by have hb := unhide HLL; rw [hlq'] at hb; exact hb)
      have HRG := hide (show wr.rangeAt g 0 rk.cl from blk_range BK)
      have HWK := hide hWk
      have HBU := hide (built_req kd)
      clear hd hlq hlq' hRk BK hWk hlk
      go_wp2_with (first | refine wpList_load_mid rfl 29 (.tmp 3) rfl g 0 rfl rk.cl _ (unhide HRG) Tryz.underlying29 rfl size_req ?_ | refine wpList_buildAs rfl 29 #[(0, .tmp 32)] rfl _ rfl (Req.bare kd).cs (unhide HBU) ?_ | refine wpList_eqQ rfl (.tmp 31) (.tmp 33) rfl rk (Req.bare kd) rfl rfl ?_)
      go_ret
      exact ⟨by rw [unhide HRB]; rfl, l ++ lk, unhide HWK, fun _ => by rw [unhide HRL]⟩
end Go.Proofs.YtclgkgaobjcifaaGreatDoor

namespace Go.Proofs.YtclgkgaobjcifaaGreatDoor
open Go.RowKit
/-- A number of 32 bits as four bytes, the lowest first. -/
def le4 (c : Nat) : List Int := [((c % 256 : Nat) : Int), ((c / 256 % 256 : Nat) : Int), ((c / 65536 % 256 : Nat) : Int), ((c / 16777216 : Nat) : Int)]
theorem Bytes.app {a b : List Int} (ha : Bytes a) (hb : Bytes b) : Bytes (a ++ b) := by
  intro j
  rw [List.getD_eq_getElem?_getD, List.getElem?_append]
  split
  · rw [← List.getD_eq_getElem?_getD]; exact ha j
  · rw [← List.getD_eq_getElem?_getD]; exact hb _
theorem Bytes.of_mem {a : List Int} (h : ∀ x ∈ a, 0 ≤ x ∧ x < 256) : Bytes a := by
  intro j
  rw [List.getD_eq_getElem?_getD]
  cases e : a[j]? with
  | none => simp
  | some x => exact h x (List.mem_of_getElem? e)
theorem Bytes.mem {a : List Int} (h : Bytes a) {x : Int} (hx : x ∈ a) : 0 ≤ x ∧ x < 256 := by
  obtain ⟨j, hj, e⟩ := List.getElem_of_mem hx
  have := h j
  rw [List.getD_eq_getElem?_getD, List.getElem?_eq_getElem hj, e] at this
  simpa using this
theorem chkN_lt (l : List Int) : chkN l ≤ 4294967295 := by unfold chkN; omega
theorem le4_bytes (c : Nat) (h : c ≤ 4294967295) : Bytes (le4 c) := Bytes.of_mem (by
  intro x hx
  simp [le4] at hx
  rcases hx with rfl | rfl | rfl | rfl <;> omega)
theorem fits1 (x : Int) : fitsP x 1 ↔ 0 ≤ x ∧ x ≤ 255 := by
  unfold fitsP
  rw [show (2 : Int) ^ (8 * 1) = 256 by decide]
  omega
theorem numB1 (x : Int) (h0 : 0 ≤ x) (h : x ≤ 255) : numB x 1 = [x] := by
  simp [numB, List.range_succ]
  omega
theorem i64_and255 (c : Nat) (h : c < 9223372036854775808) : bits .and .i64 (c : Int) 255 = ((c % 256 : Nat) : Int) := by
  have hx : c &&& 255 = c % 256 := Nat.and_two_pow_sub_one_eq_mod c 8
  have h1 : (BitVec.ofInt 64 (c : Int)).toNat = c := by
    rw [BitVec.ofInt_natCast, BitVec.toNat_ofNat]; exact Nat.mod_eq_of_lt (by omega)
  have h2 : (BitVec.ofInt 64 (255 : Int)).toNat = 255 := by decide
  show IntKind.i64.wrap ((BitVec.ofInt 64 (c : Int) &&& BitVec.ofInt 64 (255 : Int)).toNat : Int) = _
  rw [BitVec.toNat_and, h1, h2, hx, IntKind.wrap_i64]
  omega
end Go.Proofs.YtclgkgaobjcifaaGreatDoor
