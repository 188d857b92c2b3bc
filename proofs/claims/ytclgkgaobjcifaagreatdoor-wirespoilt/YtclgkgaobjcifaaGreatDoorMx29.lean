import Derived.Test.YtclgkgaobjcifaaGreatDoorMx15
import Derived.Test.YtclgkgaobjcifaaGreatDoorMx17
import Derived.BigQuiet
import Derived.Test.YtclgkgaobjcifaaGreatDoorMx28
import Derived.Test.YtclgkgaobjcifaaGreatDoorMx21
import Derived.Deep.DeepCutAuto
namespace Go.Proofs.YtclgkgaobjcifaaGreatDoor
open Go.RowKit
set_option maxRecDepth 100000
set_option maxHeartbeats 1000000 in
theorem encodeReply_kind (kd : Int) (h : ¬ (0 ≤ kd ∧ kd ≤ 12)) (r : Rep) (w : World) : Calls Tryz.prog 12 #[.int .i64 kd, .agg r.cs] w fun e w' => e = .returned (.tuple #[.string ⟨#[]⟩, .int .i64 120]) ∧ Below w.heap.size w w' := by
  have HK := hide (isReplyKind_any kd)
  rw [decide_eq_false h] at HK
  obtain ⟨y, hy⟩ : ∃ Z, w.alloc (.cells r.cs 34) = Z := ⟨_, rfl⟩
  have HY := hide (show Below w.heap.size w y from by rw [← hy]; exact (Below.refl _ w).alloc (Nat.le_refl _) _)
  clear h
  generalize r.cs = rc at *
  go_enter Tryz.func12, Tryz.ntmps12
  go_wp2_with (first | (go_at_call 34; refine (unhide HK _).mono ?_; rintro e x ⟨rfl, hx⟩; subst x))
  go_ret2
  exact ⟨rfl, unhide HY⟩
set_option maxHeartbeats 1000000 in
theorem encodeReply_stat (k : Nat) (hk : k ≤ 12) (r : Rep) (hst : ¬ (0 ≤ r.st ∧ r.st ≤ 13)) (w : World) : Calls Tryz.prog 12 #[.int .i64 (k : Int), .agg r.cs] w fun e w' => e = .returned (.tuple #[.string ⟨#[]⟩, .int .i64 122]) ∧ Below w.heap.size w w' := by
  have HK := hide (isReplyKind_any (k : Int))
  have HS := hide (isStatus_any r.st)
  rw [decide_eq_true (show (0 : Int) ≤ (k : Int) ∧ (k : Int) ≤ 12 by omega)] at HK
  rw [decide_eq_false hst] at HS
  obtain ⟨g, hg⟩ : ∃ g, w.heap.size = g := ⟨_, rfl⟩
  obtain ⟨y, hy⟩ : ∃ Z, w.alloc (.cells r.cs 34) = Z := ⟨_, rfl⟩
  have HY := hide (show Below w.heap.size w y from by rw [← hy]; exact (Below.refl _ w).alloc (Nat.le_refl _) _)
  have BY : Blk y g r.cs 34 := by rw [← hy, ← hg]; exact Blk.new w _ _
  obtain ⟨st, hst'⟩ : ∃ q, r.st = q := ⟨_, rfl⟩
  have c0 : y.cell? ⟨g, 0, none⟩ = some (.int .i64 st) := by rw [BY.cell, ← hst']; rfl
  rw [hst'] at HS
  clear hst hst' BY
  generalize r.cs = rc at *
  go_enter Tryz.func12, Tryz.ntmps12
  go_wp2_with (first | (go_at_call 34; refine (unhide HK _).mono ?_; rintro e x ⟨rfl, hx⟩; subst x) | (go_at_call 35; refine (unhide HS _).mono ?_; rintro e x ⟨rfl, hx⟩; subst x))
  go_ret2
  exact ⟨rfl, unhide HY⟩
set_option maxHeartbeats 4000000 in
theorem encodeReply_no (k : Nat) (hk : k ≤ 12) (r : Rep) (V Pl : List Int) (hvm : V.length = r.vm) (hpm : Pl.length = r.pm) (hm9 : r.vm ≤ 9223372036854775807 ∧ r.pm ≤ 9223372036854775807) (hst : 0 ≤ r.st ∧ r.st ≤ 13) (hB : lyB (k : Int) r V Pl = false) (w : World) (hLV : Lst w w.heap.size r.vp V) (hLP : Lst w w.heap.size r.pp Pl) : Calls Tryz.prog 12 #[.int .i64 (k : Int), .agg r.cs] w fun e w' => e = .returned (.tuple #[.string ⟨#[]⟩, .int .i64 122]) ∧ Below w.heap.size w w' := by
  obtain ⟨g, hg⟩ : ∃ g, w.heap.size = g := ⟨_, rfl⟩
  have HL := hide (fun W (hW0 : Below w.heap.size w W) base b v l hW hb hB9 hl => layReplyA_any (k : Int) r V Pl hvm hpm hm9 w.heap.size W (hLV.below hW0) (hLP.below hW0) base b v l hW hb hB9 hl)
  have HK := hide (isReplyKind_any (k : Int))
  have HS := hide (isStatus_any r.st)
  rw [decide_eq_true (show (0 : Int) ≤ (k : Int) ∧ (k : Int) ≤ 12 by omega)] at HK
  rw [decide_eq_true hst] at HS
  have HFit := hide ((fits1 r.st).2 ⟨hst.1, by omega⟩)
  rw [hB] at HL
  obtain ⟨st, hst'⟩ : ∃ q, r.st = q := ⟨_, rfl⟩
  obtain ⟨y, hy⟩ : ∃ Z, w.alloc (.cells r.cs 34) = Z := ⟨_, rfl⟩
  have BY : Blk y g r.cs 34 := by rw [← hy, ← hg]; exact Blk.new w _ _
  have hby : Below g w y := by rw [← hy, ← hg]; exact (Below.refl _ w).alloc (Nat.le_refl _) _
  have hsy : y.heap.size = g + 1 := by rw [← hy, ← hg]; simp
  have c0 : y.cell? ⟨g, 0, none⟩ = some (.int .i64 st) := by rw [BY.cell, ← hst']; rfl
  have HY := hide (And.intro BY (And.intro hby hsy))
  have hrc : r.cs = r.cl.toArray := rfl
  have HSZ := hide (show (Tryz.prog.info? 34).map (·.size) = some r.cl.length from size_rep)
  rw [hrc] at hy HL HY ⊢
  rw [hst'] at HS HFit
  have hws : wrap64 st = st := wrap64_eq _ (by omega) (by omega)
  clear hrc hst' hst hB hk BY hby hsy hLV hLP hvm hpm hm9
  generalize lyL (k : Int) r V Pl = RL at *
  generalize r.cl = rl at *
  go_enter Tryz.func12, Tryz.ntmps12
  go_wp2_with (first | (go_at_call 34; refine (unhide HK _).mono ?_; rintro e x ⟨rfl, hx⟩; subst x) | (go_at_call 35; refine (unhide HS _).mono ?_; rintro e x ⟨rfl, hx⟩; subst x))
  refine (newWriter_any _).mono ?_
  rintro e x1 ⟨rfl, hW1, hb1, hs1⟩
  obtain ⟨BY, hby, hsy⟩ := unhide HY
  rw [hsy] at hW1 hb1 hs1 ⊢
  have B1 := BY.below hb1 (by omega)
  have hbw1 : Below g w x1 := hby.trans (hb1.mono (by omega))
  have d0 : x1.cell? ⟨g, 0, none⟩ = some (.int .i64 st) := by rw [B1.cell]; rw [← BY.cell]; exact c0
  have hWr := WPost.refl hW1
  have HN := hide (wnumK hWr (by omega) 1 (by decide) (by decide) st (unhide HFit) (by simp) 1 rfl _ rfl)
  have H1 := hide (And.intro B1 (And.intro hbw1 hs1))
  have HW1 := hide hW1
  clear BY hby hsy hW1 hb1 hs1 B1 hbw1 hWr c0 HY hy
  go_wp2_with fail
  refine (unhide HN).mono ?_
  rintro e x2 ⟨rfl, hp2⟩
  obtain ⟨B1, hbw1, hs1⟩ := unhide H1
  have hW1 := unhide HW1
  have B2 := hp2.blk B1 (fp_blk hW1 B1 (by decide) (by omega))
  have HRG := hide (show x2.rangeAt g 0 rl from blk_range B2)
  have hp2' := hp2
  obtain ⟨v1, hq1, hq2, hq3⟩ := hp2
  have HL2 := hide (unhide HL x2 (by rw [hg]; exact hbw1.trans ((hp2'.bel (w := x1) (Below.refl _ _) (by omega)).mono (by omega))) (g + 1) (g + 1) v1 _ hq1 (by have := hq2.size; omega) (by omega) (by rw [List.nil_append, numB_len]; omega))
  have HQ := hide (And.intro hq2 hq3)
  clear B1 hbw1 hs1 hW1 B2 hq1 hq2 hq3 d0
  go_wp2_with (refine wpList_load_mid rfl 34 (.tmp 3) rfl g 0 rfl rl _ (unhide HRG) Tryz.underlying34 rfl (unhide HSZ) ?_)
  refine (unhide HL2).mono ?_
  rintro e x3 ⟨l', rfl, hp3, hl'⟩
  have hb3 : Below g w x3 := by
    obtain ⟨hq2, hq3⟩ := unhide HQ
    obtain ⟨B1, hbw1, hs1⟩ := unhide H1
    have hp3' := WPost.trans hq2 hq3 hp3
    exact hbw1.trans ((hp3'.bel (w := x1) (Below.refl _ _) (by omega)).mono (by omega))
  have HB3 := hide hb3
  clear hp3 hl' hb3 HQ HL2
  go_wp2_with fail
  go_ret2
  exact ⟨rfl, by rw [hg]; exact unhide HB3⟩
end Go.Proofs.YtclgkgaobjcifaaGreatDoor

namespace Go.Proofs.YtclgkgaobjcifaaGreatDoor
open Go.RowKit
set_option maxRecDepth 100000
set_option maxHeartbeats 2000000 in
theorem decodeReply_kind (kd : Int) (h : ¬ (0 ≤ kd ∧ kd ≤ 12)) (s : ByteArray) (w : World) : Calls Tryz.prog 16 #[.int .i64 kd, .string s] w fun e w' => e = .returned (.tuple #[.agg (Rep.bare 0).cs, .int .i64 120]) ∧ Below w.heap.size w w' := by
  have HKK := hide (isReplyKind_any kd)
  rw [decide_eq_false h] at HKK
  obtain ⟨g, hg⟩ : ∃ g, w.heap.size = g := ⟨_, rfl⟩
  obtain ⟨y, hy⟩ : ∃ Z, w.alloc (.cells #[.int .i64 0, .int .i64 0, .int .i64 0, .slice none 0 0, .int .i64 0, .slice none 0 0, .string ⟨#[]⟩, .string ⟨#[]⟩] 34) = Z := ⟨_, rfl⟩
  have BY : Blk y g #[.int .i64 0, .int .i64 0, .int .i64 0, .slice none 0 0, .int .i64 0, .slice none 0 0, .string ⟨#[]⟩, .string ⟨#[]⟩] 34 := by rw [← hy, ← hg]; exact Blk.new w _ _
  have hby : Below g w y := by rw [← hy, ← hg]; exact (Below.refl _ w).alloc (Nat.le_refl _) _
  rw [hg]
  have BT := blk_setRow (cells := (Rep.bare 0).cs) BY
  have HL := hide (iload_blk 34 _ BT Tryz.underlying34 rfl size_rep)
  have HZ := hide BY
  have HBN := hide built_norep
  have HO := hide (Rep.one (Rep.bare 0))
  have HF2 := hide (show Below g w (y.setRow g (Rep.bare 0).cs) from below_setRow hby (Nat.le_refl _) _)
  clear BT BY hby h
  go_enter Tryz.func16, Tryz.ntmps16
  go_wp2_with (first | (go_at_call 34; refine (unhide HKK _).mono ?_; rintro e x ⟨rfl, hx⟩; subst x) | refine wpList_buildAs rfl 34 #[] rfl _ rfl (Rep.bare 0).cs (unhide HBN) ?_ | refine wpList_store_row rfl 34 (.tmp 4) (.tmp 13) rfl g (Rep.bare 0).cs rfl rfl 34 #[.int .i64 0, .int .i64 0, .int .i64 0, .slice none 0 0, .int .i64 0, .slice none 0 0, .string ⟨#[]⟩, .string ⟨#[]⟩] (unhide HZ) size_rep rfl (unhide HO) ?_)
  (try simp only [Exit.inBlock, Exit.then])
  refine bodyPost_ret (v := .tuple #[.agg (Rep.bare 0).cs, .int .i64 120]) (results_cell2 (p := 4) (q := 5) (ty := 34) rfl _ _ _ ⟨g, 0, none⟩ rfl _ (unhide HL)) rfl ?_
  exact ⟨rfl, unhide HF2⟩
end Go.Proofs.YtclgkgaobjcifaaGreatDoor

namespace Go.Proofs.YtclgkgaobjcifaaGreatDoor
open Go.RowKit
set_option maxRecDepth 100000
set_option maxHeartbeats 1000000 in
theorem same12_any (w : World) (p1 p2 : Option Addr) (c1 c2 : Nat) (l1 l2 : List Int) (n1 n2 : Nat) (hn1 : n1 = l1.length) (hn2 : n2 = l2.length) (hz : n1 ≤ 9000000000000000000) (h1 : Lst w w.heap.size p1 l1) (h2 : Lst w w.heap.size p2 l2) : Calls Tryz.prog 20 #[.slice p1 n1 c1, .slice p2 n2 c2] w fun e w' => e = .returned (.bool (decide (l1 = l2))) ∧ Below w.heap.size w w' := by
  by_cases hne : n1 = n2
  · subst hne
    have HL := hide (And.intro hn1 (And.intro hn2 (And.intro h1 h2)))
    have hnn : ((n1 : Int) != (n1 : Int)) = false := by simp
    clear hn1 hn2 h1 h2
    go_enter Tryz.func20, Tryz.ntmps20
    go_wp2
    go_loopw [5] (fun i wr => ∃ k : Nat, k ≤ n1 ∧ i = .int .i64 (k : Int) ∧ (∀ j, j < k → l1.getD j 0 = l2.getD j 0) ∧ Below w.heap.size w wr) (fun i _ => n1 - (intOf i).toNat)
    case atStart => exact ⟨0, by omega, rfl, fun j hj => absurd hj (by omega), Below.refl _ _⟩
    case round =>
      obtain ⟨k, hk, rfl, hall, hb⟩ := hrel
      obtain ⟨wo, rfl⟩ : ∃ wo, wo = wr := ⟨_, rfl⟩
      have XB := hide hb
      have HA := hide hall
      clear hb hall
      by_cases hkn : k < n1
      · obtain ⟨g1, o1, rfl, q1, d1⟩ := (unhide HL).2.2.1 k (by have := (unhide HL).1; omega)
        obtain ⟨g2, o2, rfl, q2, d2⟩ := (unhide HL).2.2.2 k (by have := (unhide HL).2.1; omega)
        have e1 := ((unhide XB).cell (p := ⟨g1, o1 + k, none⟩) q1).trans d1
        have e2 := ((unhide XB).cell (p := ⟨g2, o2 + k, none⟩) q2).trans d2
        obtain ⟨z1, hz1⟩ : ∃ z, l1.getD k 0 = z := ⟨_, rfl⟩
        obtain ⟨z2, hz2⟩ : ∃ z, l2.getD k 0 = z := ⟨_, rfl⟩
        rw [hz1] at e1
        rw [hz2] at e2
        have HZ := hide (And.intro hz1 hz2)
        clear q1 q2 d1 d2 hz1 hz2
        have j0 : 0 ≤ (k : Int) := by omega
        have j1 : (k : Int) < (n1 : Int) := by omega
        by_cases hzz : z1 = z2
        · subst hzz
          have hq : (z1 != z1) = false := by simp
          go_wp2_with fail
          go_quiet (fail)
          go_wp2
          go_roundw
          case rel =>
            refine ⟨k + 1, by omega, by go_num, fun j hj => ?_, below_drewN (unhide XB) _⟩
            by_cases e : j = k
            · rw [e, (unhide HZ).1, (unhide HZ).2]
            · exact unhide HA j (by omega)
          case measure => simp [intOf]; omega
        · have hq : (z1 != z2) = true := by simpa using hzz
          have HD := hide (show decide (l1 = l2) = false from decide_eq_false (fun e => hzz (by rw [← (unhide HZ).1, ← (unhide HZ).2, e])))
          clear hzz
          go_wp2_with fail
          go_quiet (fail)
          go_wp2
          go_ret
          rw [unhide HD]
          exact ⟨rfl, below_drewN (unhide XB) _⟩
      · have e1 : ¬ (k : Int) < (n1 : Int) := by omega
        have HD := hide (show decide (l1 = l2) = true from decide_eq_true (by
          obtain ⟨a1, a2, _⟩ := unhide HL
          refine List.ext_getElem (by omega) (fun i b1 b2 => ?_)
          have := unhide HA i (by omega)
          rwa [List.getD_eq_getElem?_getD, List.getD_eq_getElem?_getD, List.getElem?_eq_getElem b1, List.getElem?_eq_getElem b2] at this))
        go_wp2
        go_ret
        rw [unhide HD]
        exact ⟨rfl, unhide XB⟩
  · have hnn : ((n1 : Int) != (n2 : Int)) = true := by simp; omega
    have HD := hide (show decide (l1 = l2) = false from decide_eq_false (fun e => hne (by rw [hn1, hn2, e])))
    clear hne hn1 hn2 h1 h2
    go_enter Tryz.func20, Tryz.ntmps20
    go_wp2
    go_ret
    rw [unhide HD]
    exact ⟨rfl, Below.refl _ _⟩
theorem same12_eq (w : World) (p1 p2 : Option Addr) (c1 c2 : Nat) (L : List Int) (n1 n2 : Nat) (hn1 : n1 = L.length) (hn2 : n2 = L.length) (hz : n1 ≤ 9000000000000000000) (h1 : Lst w w.heap.size p1 L) (h2 : Lst w w.heap.size p2 L) : Calls Tryz.prog 20 #[.slice p1 n1 c1, .slice p2 n2 c2] w fun e w' => e = .returned (.bool true) ∧ Below w.heap.size w w' := by
  refine (same12_any w p1 p2 c1 c2 L L n1 n2 hn1 hn2 hz h1 h2).mono ?_
  rintro e w' ⟨he, hb⟩
  rw [decide_eq_true (show L = L from rfl)] at he
  exact ⟨he, hb⟩
/-- two replies that say the same -/
structure Ali (r q : Rep) (w : World) (V Pl : List Int) : Prop where
  st : r.st = q.st
  qu : r.qu = q.qu
  ch : r.ch = q.ch
  no : r.no = q.no
  wr : r.wr = q.wr
  da : r.da = q.da
  v1 : r.vm = V.length ∧ Lst w w.heap.size r.vp V
  v2 : q.vm = V.length ∧ Lst w w.heap.size q.vp V
  p1 : r.pm = Pl.length ∧ Lst w w.heap.size r.pp Pl
  p2 : q.pm = Pl.length ∧ Lst w w.heap.size q.pp Pl
  m8 : V.length ≤ 8 ∧ Pl.length ≤ 8
set_option maxHeartbeats 4000000 in
theorem alike12_eq (r q : Rep) (w : World) (V Pl : List Int) (h : Ali r q w V Pl) : Calls Tryz.prog 18 #[.agg r.cs, .agg q.cs] w fun e w' => e = .returned (.bool true) ∧ Below w.heap.size w w' := by
  obtain ⟨B1, B2, hbl, hs2⟩ := two_boxes w r.cs q.cs 34 34
  obtain ⟨g, hg⟩ : ∃ g, w.heap.size = g := ⟨_, rfl⟩
  rw [hg] at B1 B2 hbl hs2 ⊢
  obtain ⟨y, hy⟩ : ∃ Z, (w.alloc (.cells r.cs 34)).alloc (.cells q.cs 34) = Z := ⟨_, rfl⟩
  rw [hy] at B1 B2 hbl hs2
  obtain ⟨rst, rqu, rch, rvp, rvm, rvc, rno, rpp, rpm, rpc, rwr, rda⟩ := r
  obtain ⟨qst, qqu, qch, qvp, qvm, qvc, qno, qpp, qpm, qpc, qwr, qda⟩ := q
  obtain ⟨e1, e2, e3, e4, e5, e6, v1, v2, p1, p2, m8⟩ := h
  simp only at e1 e2 e3 e4 e5 e6 v1 v2 p1 p2
  subst e1 e2 e3 e4 e5 e6
  have hLB : ∀ (p : Option Addr) (L : List Int) (W : World), Lst w w.heap.size p L → Below g w W → Lst W W.heap.size p L := fun p L W hl hb => ((hg ▸ hl).below hb).mono (by rw [← hg]; exact hb.size)
  have HV := hide (fun W (hb : Below g w W) => same12_eq W rvp qvp rvc qvc V rvm qvm v1.1 v2.1 (by omega) (hLB _ _ W v1.2 hb) (hLB _ _ W v2.2 hb))
  have HP := hide (fun W (hb : Below g w W) => same12_eq W rpp qpp rpc qpc Pl rpm qpm p1.1 p2.1 (by omega) (hLB _ _ W p1.2 hb) (hLB _ _ W p2.2 hb))
  have HY := hide (And.intro B1 (And.intro B2 hbl))
  have r3 : y.cell? ⟨g, 3, none⟩ = some (.slice rvp rvm rvc) := by rw [B1.cell]; rfl
  have q3 : y.cell? ⟨g + 1, 3, none⟩ = some (.slice qvp qvm qvc) := by rw [B2.cell]; rfl
  have hsz : y.heap.size = g + 2 := hs2
  clear B1 B2 hbl v1 v2 p1 p2 hLB m8
  go_enter Tryz.func18, Tryz.ntmps18
  go_wp2_with fail
  refine (unhide HV _ (unhide HY).2.2).mono ?_
  rintro e y1 ⟨rfl, hy1⟩
  obtain ⟨B1, B2, hbl⟩ := unhide HY
  have C1 := B1.below hy1 B1.lt
  have C2 := B2.below hy1 B2.lt
  have hb1 : Below g w y1 := hbl.trans (hy1.mono (by omega))
  have r5 : y1.cell? ⟨g, 5, none⟩ = some (.slice rpp rpm rpc) := by rw [C1.cell]; rfl
  have q5 : y1.cell? ⟨g + 1, 5, none⟩ = some (.slice qpp qpm qpc) := by rw [C2.cell]; rfl
  have hs1 : g + 2 ≤ y1.heap.size := by have := hy1.size; omega
  have HY1 := hide (And.intro C1 (And.intro C2 hb1))
  clear B1 B2 hbl C1 C2 hb1 hy1 HY r3 q3 hsz
  go_wp2_with fail
  refine (unhide HP _ (unhide HY1).2.2).mono ?_
  rintro e y2 ⟨rfl, hy2⟩
  obtain ⟨B1, B2, hbl⟩ := unhide HY1
  have C1 := B1.below hy2 B1.lt
  have C2 := B2.below hy2 B2.lt
  have HB2 := hide (show Below g w y2 from hbl.trans (hy2.mono (by omega)))
  have c0 : y2.cell? ⟨g, 0, none⟩ = some (.int .i64 rst) := by rw [C1.cell]; rfl
  have d0 : y2.cell? ⟨g + 1, 0, none⟩ = some (.int .i64 rst) := by rw [C2.cell]; rfl
  have c1 : y2.cell? ⟨g, 1, none⟩ = some (.int .i64 rqu) := by rw [C1.cell]; rfl
  have d1 : y2.cell? ⟨g + 1, 1, none⟩ = some (.int .i64 rqu) := by rw [C2.cell]; rfl
  have c2 : y2.cell? ⟨g, 2, none⟩ = some (.int .i64 rch) := by rw [C1.cell]; rfl
  have d2 : y2.cell? ⟨g + 1, 2, none⟩ = some (.int .i64 rch) := by rw [C2.cell]; rfl
  have c4 : y2.cell? ⟨g, 4, none⟩ = some (.int .i64 rno) := by rw [C1.cell]; rfl
  have d4 : y2.cell? ⟨g + 1, 4, none⟩ = some (.int .i64 rno) := by rw [C2.cell]; rfl
  have c6 : y2.cell? ⟨g, 6, none⟩ = some (.string rwr) := by rw [C1.cell]; rfl
  have d6 : y2.cell? ⟨g + 1, 6, none⟩ = some (.string rwr) := by rw [C2.cell]; rfl
  have c7 : y2.cell? ⟨g, 7, none⟩ = some (.string rda) := by rw [C1.cell]; rfl
  have d7 : y2.cell? ⟨g + 1, 7, none⟩ = some (.string rda) := by rw [C2.cell]; rfl
  clear B1 B2 hbl C1 C2 hy2 HY1 r5 q5 hs1
  go_wp2_with fail
  go_ret
  exact ⟨rfl, unhide HB2⟩
end Go.Proofs.YtclgkgaobjcifaaGreatDoor

namespace Go.Proofs.YtclgkgaobjcifaaGreatDoor
open Go.RowKit
set_option maxRecDepth 100000
/-- what EncodeReply answers -/
def encG (kd : Int) (r : Rep) (V Pl : List Int) : Bool := decide (0 ≤ r.st ∧ r.st ≤ 13) && lyB kd r V Pl
def encF (kd : Int) (r : Rep) (V Pl : List Int) : ByteArray := strOfNums (eyL kd r V Pl) ++ strOfNums (le4 (chkN (kd :: eyL kd r V Pl)))
def encS (kd : Int) (r : Rep) (V Pl : List Int) : ByteArray := if 0 ≤ kd ∧ kd ≤ 12 then (if encG kd r V Pl = true then encF kd r V Pl else ⟨#[]⟩) else ⟨#[]⟩
def encE (kd : Int) (r : Rep) (V Pl : List Int) : Int := if 0 ≤ kd ∧ kd ≤ 12 then (if encG kd r V Pl = true then 0 else 122) else 120
theorem encP_any (kd : Int) (r : Rep) (V Pl : List Int) (hvm : V.length = r.vm) (hpm : Pl.length = r.pm) (hm9 : r.vm ≤ 9000000000000000000 ∧ r.pm ≤ 9000000000000000000) (w : World) (hLV : Lst w w.heap.size r.vp V) (hLP : Lst w w.heap.size r.pp Pl) : Calls Tryz.prog 12 #[.int .i64 kd, .agg r.cs] w fun e w' => e = .returned (.tuple #[.string (encS kd r V Pl), .int .i64 (encE kd r V Pl)]) ∧ Below w.heap.size w w' := by
  unfold encS encE
  by_cases hk : 0 ≤ kd ∧ kd ≤ 12
  · rw [if_pos hk, if_pos hk]
    obtain ⟨k, rfl⟩ : ∃ k : Nat, kd = (k : Int) := ⟨kd.toNat, by omega⟩
    have hm : r.vm ≤ 9223372036854775807 ∧ r.pm ≤ 9223372036854775807 := by omega
    by_cases hs : 0 ≤ r.st ∧ r.st ≤ 13
    · by_cases hB : lyB (k : Int) r V Pl = true
      · have hg : encG (k : Int) r V Pl = true := by rw [encG, decide_eq_true hs, hB]; rfl
        rw [if_pos hg, if_pos hg]
        exact encodeReply_ok k (by omega) r V Pl hvm hpm hm hs hB w hLV hLP
      · have hg : ¬ encG (k : Int) r V Pl = true := by rw [encG, decide_eq_true hs, Bool.true_and]; exact hB
        rw [if_neg hg, if_neg hg]
        exact encodeReply_no k (by omega) r V Pl hvm hpm hm hs (by simpa using hB) w hLV hLP
    · have hg : ¬ encG (k : Int) r V Pl = true := by rw [encG, decide_eq_false hs, Bool.false_and]; decide
      rw [if_neg hg, if_neg hg]
      exact encodeReply_stat k (by omega) r hs w
  · rw [if_neg hk, if_neg hk]
    exact encodeReply_kind kd hk r w
theorem encR_any (kd : Int) (r : Rep) (V Pl : List Int) (hvm : V.length = r.vm) (hpm : Pl.length = r.pm) (hm9 : r.vm ≤ 9000000000000000000 ∧ r.pm ≤ 9000000000000000000) (w : World) (hLV : Lst w w.heap.size r.vp V) (hLP : Lst w w.heap.size r.pp Pl) : Calls Tryz.prog 19 #[.int .i64 kd, .agg r.cl.toArray] w fun e w' => e = .returned (.tuple #[.string (encS kd r V Pl), .int .i64 (encE kd r V Pl)]) ∧ Below w.heap.size w w' := by
  unfold encS encE
  by_cases hk : 0 ≤ kd ∧ kd ≤ 12
  · rw [if_pos hk, if_pos hk]
    obtain ⟨k, rfl⟩ : ∃ k : Nat, kd = (k : Int) := ⟨kd.toNat, by omega⟩
    by_cases hg : encG (k : Int) r V Pl = true
    · rw [if_pos hg, if_pos hg]
      have hg' := hg
      rw [encG, Bool.and_eq_true, decide_eq_true_eq] at hg'
      exact renc_ok k (by omega) r V Pl hvm hpm hm9 hg'.1 hg'.2 w hLV hLP
    · rw [if_neg hg, if_neg hg]
      exact renc_no k (by omega) r V Pl hvm hpm hm9 (Bool.eq_false_iff.2 hg) w hLV hLP
  · rw [if_neg hk, if_neg hk]
    exact renc_kind kd hk r w
/-- what is read of a text as a reply: the error, what it says -/
def outO (kd : Int) (s : ByteArray) : Int × Option PR :=
  if 0 ≤ kd ∧ kd ≤ 12 then
    (if frB s (rpF kd) (strOfNums [kd]) = true then
      (match (if 0 ≤ (nums s).getD 0 0 ∧ (nums s).getD 0 0 ≤ 13 then drO kd ((nums s).getD 0 0) s else none) with
        | none => (122, none)
        | some a => (0, some a))
    else (121, none))
  else (120, none)
def DzQ (kd : Int) (s : ByteArray) (g : Nat) (w : World) (e : Ending) (w' : World) : Prop := ∃ r : Rep, e = .returned (.tuple #[.agg r.cs, .int .i64 (outO kd s).1]) ∧ Below g w w' ∧ (((outO kd s).2 = none ∧ r = Rep.bare 0) ∨ ∃ a, (outO kd s).2 = some a ∧ RM ((nums s).getD 0 0) g r a w')
theorem DaQ.dz {kd : Int} {s : ByteArray} {g : Nat} {w : World} {e : Ending} {w' : World} (hk : 0 ≤ kd ∧ kd ≤ 12) (h : DaQ (frB s (rpF kd) (strOfNums [kd])) (if 0 ≤ (nums s).getD 0 0 ∧ (nums s).getD 0 0 ≤ 13 then drO kd ((nums s).getD 0 0) s else none) ((nums s).getD 0 0) g w e w') : DzQ kd s g w e w' := by
  obtain ⟨r, E, rfl, hb, h1⟩ := h
  unfold DzQ outO
  rw [if_pos hk]
  generalize (if 0 ≤ (nums s).getD 0 0 ∧ (nums s).getD 0 0 ≤ 13 then drO kd ((nums s).getD 0 0) s else none) = O at *
  rcases h1 with ⟨h1, rfl, rfl⟩ | ⟨h1, rfl, rfl, rfl⟩ | ⟨h1, a, rfl, rfl, hM⟩
  · rw [h1, if_neg (by decide)]
    exact ⟨_, rfl, hb, .inl ⟨rfl, rfl⟩⟩
  · rw [h1, if_pos rfl]
    exact ⟨_, rfl, hb, .inl ⟨rfl, rfl⟩⟩
  · rw [h1, if_pos rfl]
    exact ⟨_, rfl, hb, .inr ⟨a, rfl, hM⟩⟩
theorem decP_any (kd : Int) (s : ByteArray) (hs : s.size ≤ 150000000000000) (w : World) (hE : ETy w) : Calls Tryz.prog 16 #[.int .i64 kd, .string s] w fun e w' => DzQ kd s w.heap.size w e w' := by
  by_cases hk : 0 ≤ kd ∧ kd ≤ 12
  · obtain ⟨k, rfl⟩ : ∃ k : Nat, kd = (k : Int) := ⟨kd.toNat, by omega⟩
    exact (decodeReply_any k (by omega) s hs w hE).mono (fun e w' h => h.dz hk)
  · refine (decodeReply_kind kd hk s w).mono ?_
    rintro e w' ⟨rfl, hb⟩
    unfold DzQ outO
    rw [if_neg hk]
    exact ⟨_, rfl, hb, .inl ⟨rfl, rfl⟩⟩
theorem decR_any (kd : Int) (s : ByteArray) (hs : s.size ≤ 150000000000000) (w : World) : Calls Tryz.prog 21 #[.int .i64 kd, .string s] w fun e w' => DzQ kd s w.heap.size w e w' := by
  by_cases hk : 0 ≤ kd ∧ kd ≤ 12
  · obtain ⟨k, rfl⟩ : ∃ k : Nat, kd = (k : Int) := ⟨kd.toNat, by omega⟩
    exact (rdecR_any k (by omega) s hs w).mono (fun e w' h => h.dz hk)
  · refine (rdecR_kind kd hk s w).mono ?_
    rintro e w' ⟨rfl, hb⟩
    unfold DzQ outO
    rw [if_neg hk]
    exact ⟨_, rfl, hb, .inl ⟨rfl, rfl⟩⟩
/-- a reply that says what was read -/
def Oz (O : Option PR) (st : Int) (g : Nat) (r : Rep) (w : World) : Prop := (O = none ∧ r = Rep.bare 0) ∨ ∃ a, O = some a ∧ RM st g r a w
theorem Oz.below {O : Option PR} {st : Int} {g B : Nat} {r : Rep} {w w' : World} (h : Oz O st g r w) (hb : Below B w w') (hB : w.heap.size ≤ B) : Oz O st g r w' := h.imp id (fun ⟨a, h1, h2⟩ => ⟨a, h1, h2.below hb hB⟩)
/-- at most eight in each list -/
def Sm8 (O : Option PR) : Prop := ∀ a, O = some a → a.V.length ≤ 8 ∧ a.Pl.length ≤ 8
theorem takeP_sm : ∀ (fs : List Fld), (∀ f ∈ fs, IsP f) → ∀ (a a' : PR) (s : ByteArray) (i : Nat), (a.V.length ≤ 8 ∧ a.Pl.length ≤ 8) → takeP fs a s i = some a' → a'.V.length ≤ 8 ∧ a'.Pl.length ≤ 8
  | [], _, a, a', s, i, h, e => by
    have : a = a' := Option.some.inj e
    subst this
    exact h
  | f :: fs, hF, a, a', s, i, h, e => by
    obtain ⟨e1, e2⟩ := takeP_inv e
    refine takeP_sm fs (fun g hg => hF g (by simp [hg])) _ a' s _ ?_ e2
    rcases hF f (by simp) with rfl | rfl | rfl | rfl | rfl | rfl | rfl
    · exact h
    · exact h
    · have hv : vtB s i = true := e1
      unfold vtB at hv
      rw [Bool.and_eq_true] at hv
      have h8 := of_decide_eq_true hv.1
      refine ⟨?_, h.2⟩
      show (tkB s (i + 1) (vtN s i)).length ≤ 8
      simp only [tkB, List.length_take]
      omega
    · exact h
    · refine ⟨h.1, ?_⟩
      show (tkB s i 8).length ≤ 8
      simp only [tkB, List.length_take]
      omega
    · exact h
    · exact h
theorem outO_sm (kd : Int) (s : ByteArray) : Sm8 (outO kd s).2 := by
  intro a h
  unfold outO at h
  split at h
  · split at h
    · split at h
      · exact absurd h (by simp)
      · rename_i b hb
        have e : b = a := Option.some.inj h
        subst e
        split at hb
        · unfold drO at hb
          split at hb
          · exact takeP_sm _ (rpF_all kd) _ _ _ _ ⟨by decide, by decide⟩ hb
          · split at hb
            · have e : PR.bare = b := Option.some.inj hb
              subst e
              exact ⟨by decide, by decide⟩
            · exact absurd hb (by simp)
        · exact absurd hb (by simp)
    · exact absurd h (by simp)
  · exact absurd h (by simp)
theorem Oz.ali {O : Option PR} {st : Int} {g g' : Nat} {r q : Rep} {w : World} (hO : Sm8 O) (h : Oz O st g r w) (h' : Oz O st g' q w) : ∃ V Pl, Ali r q w V Pl := by
  rcases h with ⟨h0, rfl⟩ | ⟨a, h0, hM⟩
  · rcases h' with ⟨_, rfl⟩ | ⟨a, h1, _⟩
    · exact ⟨[], [], rfl, rfl, rfl, rfl, rfl, rfl, ⟨rfl, Lst.nil _ _ _⟩, ⟨rfl, Lst.nil _ _ _⟩, ⟨rfl, Lst.nil _ _ _⟩, ⟨rfl, Lst.nil _ _ _⟩, by decide, by decide⟩
    · rw [h0] at h1; exact absurd h1 (by simp)
  · rcases h' with ⟨h1, _⟩ | ⟨b, h1, hN⟩
    · rw [h0] at h1; exact absurd h1 (by simp)
    · rw [h0] at h1
      have e : a = b := Option.some.inj h1
      subst e
      exact ⟨a.V, a.Pl, hM.st.trans hN.st.symm, hM.qu.trans hN.qu.symm, hM.ch.trans hN.ch.symm, hM.no.trans hN.no.symm, hM.wr.trans hN.wr.symm, hM.da.trans hN.da.symm, ⟨hM.v.1, hM.v.lst⟩, ⟨hN.v.1, hN.v.lst⟩, ⟨hM.p.1, hM.p.lst⟩, ⟨hN.p.1, hN.p.lst⟩, hO a h0⟩
end Go.Proofs.YtclgkgaobjcifaaGreatDoor

namespace Go.Proofs.YtclgkgaobjcifaaGreatDoor
open Go.RowKit
set_option maxRecDepth 100000
/-- what fixed answers: some text, no longer -/
def FxQ (n : Nat) (e : Ending) : Prop := ∃ t : ByteArray, e = .returned (.string t) ∧ t.size ≤ n
set_option maxHeartbeats 4000000 in
theorem fixed12_any (s : ByteArray) (n : Nat) (hn : s.size = n + 4) (h9 : n ≤ 100000) (kd : Int) (w : World) : Calls Tryz.prog 25 #[.string s, .int .i64 kd] w fun e w' => FxQ (n + 4) e ∧ Below w.heap.size w w' := by
  have w4 : wrap64 ((s.size : Int) - 4) = (n : Int) := by rw [wrap64_eq _ (by omega) (by omega)]; omega
  have w4' : IntKind.i64.wrap ((s.size : Int) - 4) = (n : Int) := by rw [wrapI_eq _ (by omega) (by omega)]; omega
  have l1 : ¬ ((n : Int) < 0) := by omega
  have l2 : (n : Int) ≤ (s.size : Int) := by omega
  have l3 : n ≤ s.size := by omega
  have l4 : (0 : Int) ≤ (n : Int) := by omega
  obtain ⟨A, hA⟩ : ∃ Z, s.extract 0 n = Z := ⟨_, rfl⟩
  have hAs : A.size = n := by rw [← hA, ByteArray.size_extract]; omega
  have HN := hide (And.intro hn h9)
  obtain ⟨N, hN⟩ : ∃ q, n + 4 = q := ⟨_, rfl⟩
  rw [hN]
  have HNN := hide hN
  obtain ⟨z, hz⟩ : ∃ q, s.size = q := ⟨_, rfl⟩
  rw [hz] at w4 w4' l2 l3
  clear hn h9 hN
  go_enter Tryz.func25, Tryz.ntmps25
  go_upto_if 19 with fail
  go_cut [6] (fun s6 wx => ∃ ah : ByteArray, s6 = .string ah ∧ ah.size ≤ n + 1 ∧ Below w.heap.size w wx)
  case first =>
    by_cases hk : 0 ≤ kd
    · have hk1 : decide (kd ≥ 0) = true := decide_eq_true hk
      obtain ⟨x, hx⟩ : ∃ x, IntKind.u8.wrap kd = x := ⟨_, rfl⟩
      have hcv := run_one w x 5
      have hs1 : (strOfNums [x]).size = 1 := rfl
      have HS := hide (show (strOfNums [x] ++ A).size ≤ n + 1 from by rw [ByteArray.size_append]; omega)
      generalize strOfNums [x] = S1 at *
      have y1 : ¬ 9223372036854775807 < S1.size + A.size := by have := (unhide HN).2; omega
      clear hs1
      go_wp2_with fail
      go_meet
      exact ⟨_, rfl, unhide HS, (Below.refl _ _).alloc (Nat.le_refl _) _⟩
    · have hk1 : decide (kd ≥ 0) = false := decide_eq_false hk
      go_wp2_with fail
      go_meet
      exact ⟨_, rfl, by omega, Below.refl _ _⟩
  case rest =>
  obtain ⟨ah, rfl, has, hb⟩ := hcut
  have HB := hide hb
  have HCK := hide (fun W => rcheck_any ah (by have := (unhide HN).2; omega) W)
  have hC := chkN_lt (nums ah)
  generalize chkN (nums ah) = C at *
  clear hb
  go_wp2_with fail
  refine (unhide HCK _).mono ?_
  rintro e y ⟨rfl, hy⟩
  subst y
  go_wp2
  go_loopw [0, 7, 8] (fun u c i wr => ∃ (t : ByteArray) (j m : Nat), j ≤ 4 ∧ m ≤ 4294967295 ∧ i = .int .i64 (j : Int) ∧ c = .int .i64 (m : Int) ∧ u = .string t ∧ t.size = n + j ∧ Below w.heap.size w wr) (fun _ _ i _ => 4 - (intOf i).toNat)
  case atStart => exact ⟨A, 0, C, by omega, by omega, rfl, rfl, rfl, by omega, unhide HB⟩
  case round =>
    obtain ⟨t, j, m, hj, hm, rfl, rfl, rfl, ht, hB⟩ := hrel
    obtain ⟨wo, rfl⟩ : ∃ wo, wo = wr := ⟨_, rfl⟩
    have HBE := hide hB
    clear hB HB
    by_cases hj4 : j < 4
    · have hj' : (j : Int) < 4 := by omega
      have hr : ((m : Int)).tmod 256 = ((m % 256 : Nat) : Int) := rfl
      obtain ⟨R, hR⟩ : ∃ R, m % 256 = R := ⟨_, rfl⟩
      obtain ⟨Q, hQ⟩ : ∃ Q, m / 256 = Q := ⟨_, rfl⟩
      have hq : ((m : Int)).tdiv 256 = (Q : Int) := by rw [← hQ]; rfl
      rw [hR] at hr
      have hR8 : R < 256 := by omega
      have hw8 : IntKind.u8.wrap (R : Int) = (R : Int) := by rw [IntKind.wrap_u8']; omega
      have hcv := run_one wo (R : Int) 5
      have hs1 : (strOfNums [(R : Int)]).size = 1 := rfl
      have hQl : Q ≤ m := by rw [← hQ]; exact Nat.div_le_self _ _
      have HT := hide (show (t ++ strOfNums [(R : Int)]).size = n + (j + 1) from by rw [ByteArray.size_append]; omega)
      have HQ := hide (show Q ≤ 4294967295 by omega)
      clear hR hQ
      generalize strOfNums [(R : Int)] = S1 at *
      have y1 : ¬ 9223372036854775807 < t.size + S1.size := by have := (unhide HN).2; omega
      go_wp2
      go_roundw
      case rel => exact ⟨t ++ S1, j + 1, Q, by omega, unhide HQ, by go_num, by go_num, rfl, unhide HT, (unhide HBE).alloc (by have := (unhide HBE).size; omega) _⟩
      all_goals (simp [intOf]; omega)
    · have hj' : ¬ (j : Int) < 4 := by omega
      obtain rfl : j = 4 := by omega
      have HF := hide (show FxQ N (.returned (.string t)) from ⟨t, rfl, by rw [← unhide HNN]; omega⟩)
      clear ht
      go_wp2
      go_ret
      exact ⟨unhide HF, unhide HBE⟩
end Go.Proofs.YtclgkgaobjcifaaGreatDoor
