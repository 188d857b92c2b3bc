import Derived.Test.YtolblldpdgfkmaaDoorGrb
namespace Go.Proofs.YtolblldpdgfkmaaDoor
open Go.RowKit
set_option maxRecDepth 100000
theorem gr_form {w : World} {base n : Nat} {e : TypeId} {k : Nat} {v : Value} {xs : List Value} (h : w.ownsRow base e k v n xs) : ∃ p cap, v = .slice p n cap ∧ n ≤ cap := by
  rcases h.2 with ⟨h1, h0⟩ | ⟨g, cap, cur, h1, hb, hg, hn, hc, hs, hx⟩
  · exact ⟨none, 0, by rw [h1, h0], by omega⟩
  · exact ⟨_, cap, h1, by omega⟩
theorem gr_cell {w : World} {base : Nat} {e : TypeId} {n c : Nat} {p : Option Addr} {xs : List Value} (h : w.ownsRow base e 1 (.slice p n c) n xs) (j : Nat) (hj : j < n) : ∃ g, p = some ⟨g, 0, none⟩ ∧ w.cell? ⟨g, j, none⟩ = xs[j]? ∧ w.frozen? ⟨g, j, none⟩ = false ∧ base ≤ g ∧ g < w.heap.size := by
  rcases h.2 with ⟨h1, h0⟩ | ⟨g, cap, cur, h1, hb, hg, hn, hc, hs, hx⟩
  · omega
  · have e0 : p = some ⟨g, 0, none⟩ := by injection h1
    have hB : Blk w g cur e := hg
    refine ⟨g, e0, ?_, hB.frozen j, hb, hB.lt⟩
    rw [hB.cell, ← hx, List.getElem?_take, if_pos (by omega)]
    simp
theorem gr_new (w : World) (T : TypeId) (x : Value) (j : Nat) (u : Value) (hu : [x][j]? = some u) : (w.alloc (.cells #[x] T)).cell? (Addr.add ⟨w.heap.size, 0, none⟩ j) = some u := by
  rw [Addr.add_mid, Nat.zero_add, (Blk.new w T #[x]).cell j, ← hu]
  simp
theorem gr_int : (Tryd.prog.info? 3).map (fun i => (i.zero, i.size, i.bytes)) = some (some (.int .i64 0), 1, 8) := by kernel_rfl
/-- a row of elements, in memory -/
def gV (n : Nat) (R : Nat → G) : List Value := (List.range n).map (fun k => Value.int .i64 ((R k).v : Int))
theorem gV_len (n : Nat) (R : Nat → G) : (gV n R).length = n := by simp [gV]
theorem gV_succ (n : Nat) (R : Nat → G) : gV (n + 1) R = gV n R ++ [.int .i64 ((R n).v : Int)] := by simp [gV, List.range_succ]
theorem gV_at {n : Nat} (R : Nat → G) {k : Nat} (hk : k < n) : (gV n R)[k]? = some (.int .i64 ((R k).v : Int)) := by simp [gV, hk]
theorem gV_congr {n : Nat} {R S : Nat → G} (h : ∀ k, k < n → R k = S k) : gV n R = gV n S := by
  unfold gV
  refine List.map_congr_left (fun k hk => ?_)
  rw [h k (List.mem_range.1 hk)]
theorem gV_set {n : Nat} (R : Nat → G) (k : Nat) (x : G) : (gV n R).set k (.int .i64 (x.v : Int)) = gV n (fun j => if j = k then x else R j) := by
  apply List.ext_getElem
  · simp [gV]
  · intro a b1 b2
    simp only [gV, List.getElem_map, List.getElem_range, List.getElem_set]
    by_cases q : k = a
    · rw [if_pos q, if_pos q.symm]
    · rw [if_neg q, if_neg (fun e => q e.symm)]
theorem gV_one (R : Nat → G) (n : Nat) : ∀ v, v ∈ gV n R → v.oneCell' := by
  intro v hv
  obtain ⟨k, _, rfl⟩ := List.mem_map.1 hv
  simp [Value.oneCell']
set_option maxHeartbeats 2000000 in
theorem rtimes_any (w : World) (b m c0 : Nat) (p : Option Addr) (R : Nat → G) (c : G) (h : w.ownsRow b 3 1 (.slice p m c0) m (gV m R)) (hm : m ≤ 100) : Calls Tryd.prog 67 #[.slice p m c0, .int .i64 (c.v : Int)] w fun e w' => ∃ v, e = .returned v ∧ w'.ownsRow w.heap.size 3 1 v m (gV m (fun k => R k * c)) ∧ Below w.heap.size w w' := by
  obtain ⟨i0, hi, hz0, hz1, hz2⟩ := info_parts gr_int
  have HI := hide (And.intro hi (And.intro hz0 (And.intro hz1 hz2)))
  clear hi hz0 hz1 hz2
  have HR := hide h
  have hc := c.h
  clear h
  go_enter Tryd.func67, Tryd.ntmps67
  go_wp2
  go_loopw [5, 6] (fun u i wr => ∃ k : Nat, k ≤ m ∧ i = .int .i64 (k : Int) ∧ wr.ownsRow w.heap.size 3 1 u k (gV k (fun k => R k * c)) ∧ Below w.heap.size w wr) (fun _ i _ => m - (intOf i).toNat)
  case atStart => exact ⟨0, by omega, rfl, World.ownsRow_nil _ _ _ _, Below.refl _ _⟩
  case round =>
    obtain ⟨k, hk, rfl, ho, hb⟩ := hrel
    obtain ⟨wi, rfl⟩ : ∃ wi, wi = wr := ⟨_, rfl⟩
    obtain ⟨pw, cw, rfl, hcw⟩ := gr_form ho
    by_cases hkn : k < m
    · have hkn' : (k : Int) < (m : Int) := by omega
      obtain ⟨g, rfl, hg1, hg2, hg3, hg4⟩ := gr_cell (unhide HR) k hkn
      have hcl : wi.cell? ⟨g, k, none⟩ = some (.int .i64 ((R k).v : Int)) := (hb.cell (p := ⟨g, k, none⟩) hg4).trans (hg1.trans (gV_at R hkn))
      have HM := hide (fun W => rmul_any (R k).v c.v (R k).h hc W)
      have hz : gm (R k).v c.v = (R k * c).v := rfl
      rw [hz] at HM
      have HO := hide (show (wi.alloc (.cells #[.int .i64 ((R k * c).v : Int)] 3)).ownsRow w.heap.size 3 1 (.slice pw k cw) k (gV k (fun k => R k * c)) from ho.alloc _)
      have HB := hide hb
      have hsz := hb.size
      clear ho hb hg1 hg2 hg3 hg4 hz
      obtain ⟨S, hS⟩ : ∃ S : Nat → G, (fun k => R k * c) = S := ⟨_, rfl⟩
      have hSk : R k * c = S k := by rw [← hS]
      rw [hS] at HO ⊢
      rw [hSk] at HO HM
      obtain ⟨z, hzz⟩ : ∃ z : Nat, (S k).v = z := ⟨_, rfl⟩
      obtain ⟨y, hyy⟩ : ∃ y : Nat, (R k).v = y := ⟨_, rfl⟩
      rw [hyy] at hcl HM
      rw [hzz] at HO HM
      have HZ := hide hzz
      clear hSk hzz hyy hS hcw
      obtain ⟨cv, hcv⟩ : ∃ q : Nat, c.v = q := ⟨_, rfl⟩
      rw [hcv] at HM ⊢
      clear hcv
      go_wp2_with fail
      refine (unhide HM _).mono ?_
      rintro e w' ⟨rfl, hw'⟩
      subst w'
      go_wp2_with (refine wpList_append_lies _ rfl (.tmp 20) (.tmp 22) 40 rfl w.heap.size 3 i0 (.int .i64 0) 1 8 Tryd.underlying40 (unhide HI).1 (unhide HI).2.1 (unhide HI).2.2.1 (unhide HI).2.2.2 rfl (by decide) _ k (gV k S) rfl (unhide HO) ⟨wi.heap.size, 0, none⟩ 1 1 [.int .i64 (z : Int)] rfl rfl (fun q u hu => gr_new wi 3 _ q u hu) (by simp [Value.oneCell']) (by decide) (by unfold maxLen; omega) (by omega) (by simp; omega) (wi.heap.size + 1) (by simp) ?_)
      intro g5 cap5 x5 ho5 hg5 hgg hgl
      have HN := hide (show x5.ownsRow w.heap.size 3 1 (.slice (some ⟨g5, 0, none⟩) (k + 1) cap5) (k + 1) (gV (k + 1) S) ∧ Below w.heap.size w x5 from ⟨by rw [gV_succ, unhide HZ]; exact ho5, ((unhide HB).alloc (unhide HB).size _).grown hg5 (by simp; omega) (fun q hq => ((unhide HO).lt q hq).1)⟩)
      clear ho5 hg5 hgg hgl HO HB
      go_wp2
      go_roundw
      case rel => exact ⟨k + 1, by omega, by go_num, (unhide HN).1, (unhide HN).2⟩
      case measure => simp [intOf]; omega
    · obtain rfl : k = m := by omega
      have hkn' : ¬ (k : Int) < (k : Int) := by omega
      have HN := hide (And.intro ho hb)
      clear ho hb hcw
      go_wp2
      go_ret
      exact ⟨_, rfl, (unhide HN).1, (unhide HN).2⟩
theorem rweight_any (n k i : Nat) (hn : n ≤ 16) (hk : k < n + 8) (hi : i < n) (w : World) : Calls Tryd.prog 53 #[.int .i64 (n : Int), .int .i64 (k : Int), .int .i64 (i : Int)] w fun e w' => e = .returned (.int .i64 ((wt n k i).v : Int)) ∧ w' = w := by
  by_cases h1 : k < n
  · have h1' : (k : Int) < (n : Int) := by omega
    by_cases h2 : k = i
    · have HE := hide (show (wt n k i).v = 1 from by unfold wt; rw [if_pos h1, if_pos h2]; rfl)
      have h2' : ((k : Int) == (i : Int)) = true := by simp; omega
      rw [unhide HE]
      clear h2 hi hk
      go_enter Tryd.func53, Tryd.ntmps53
      go_wp2
      go_ret
      exact ⟨rfl, rfl⟩
    · have HE := hide (show (wt n k i).v = 0 from by unfold wt; rw [if_pos h1, if_neg h2]; rfl)
      have h2' : ((k : Int) == (i : Int)) = false := by simp; omega
      rw [unhide HE]
      clear hi hk
      go_enter Tryd.func53, Tryd.ntmps53
      go_wp2
      go_ret
      exact ⟨rfl, rfl⟩
  · have h1' : ¬ (k : Int) < (n : Int) := by omega
    have hx : (16 + (k - n)) ^^^ i < 256 := Nat.xor_lt_two_pow (n := 8) (by omega) (by omega)
    have HV := hide (show (wt n k i).v = giv ((16 + (k - n)) ^^^ i) from by
      unfold wt
      rw [if_neg h1]
      show giv ((16 + (k - n)) % 256 ^^^ i % 256) = _
      rw [Nat.mod_eq_of_lt (by omega : 16 + (k - n) < 256), Nat.mod_eq_of_lt (by omega : i < 256)])
    have e1 : IntKind.i64.wrap (16 + (k : Int)) = 16 + (k : Int) := wrapI_eq _ (by omega) (by omega)
    have e2 : IntKind.i64.wrap (16 + (k : Int) - (n : Int)) = ((16 + (k - n) : Nat) : Int) := by rw [wrapI_eq _ (by omega) (by omega)]; omega
    have e3 := xor64n (16 + (k - n)) i (by omega) (by omega)
    have HM := hide (fun W => rinv_any _ hx W)
    rw [unhide HV]
    obtain ⟨q, hq⟩ : ∃ q, 16 + (k - n) = q := ⟨_, rfl⟩
    rw [hq] at e2 e3 HM ⊢
    obtain ⟨r, hr⟩ : ∃ r, q ^^^ i = r := ⟨_, rfl⟩
    rw [hr] at e3 HM ⊢
    clear HV hq hr hx h1
    go_enter Tryd.func53, Tryd.ntmps53
    go_wp2_with fail
    refine (unhide HM _).mono ?_
    rintro e w' ⟨rfl, hw'⟩
    subst w'
    go_wp2
    go_ret
    exact ⟨rfl, rfl⟩
/-- may there be so many -/
def cntB (n m : Int) : Bool := decide (1 ≤ n ∧ n ≤ 16 ∧ 0 ≤ m ∧ m ≤ 8)
theorem rcount_any (n m : Int) (w : World) : Calls Tryd.prog 52 #[.int .i64 n, .int .i64 m] w fun e w' => e = .returned (.bool (cntB n m)) ∧ w' = w := by
  obtain ⟨B, hB⟩ : ∃ B, cntB n m = B := ⟨_, rfl⟩
  rw [hB]
  have HB := hide hB
  clear hB
  by_cases h1 : 1 ≤ n
  · by_cases h2 : n ≤ 16
    · by_cases h3 : 0 ≤ m
      · by_cases h4 : m ≤ 8
        · obtain rfl : B = true := by rw [← unhide HB]; exact decide_eq_true ⟨h1, h2, h3, h4⟩
          go_enter Tryd.func52, Tryd.ntmps52
          go_wp2
          go_ret
          exact ⟨rfl, rfl⟩
        · obtain rfl : B = false := by rw [← unhide HB]; exact decide_eq_false (fun q => h4 q.2.2.2)
          go_enter Tryd.func52, Tryd.ntmps52
          go_wp2
          go_ret
          exact ⟨rfl, rfl⟩
      · obtain rfl : B = false := by rw [← unhide HB]; exact decide_eq_false (fun q => h3 q.2.2.1)
        go_enter Tryd.func52, Tryd.ntmps52
        go_wp2
        go_ret
        exact ⟨rfl, rfl⟩
    · obtain rfl : B = false := by rw [← unhide HB]; exact decide_eq_false (fun q => h2 q.2.1)
      go_enter Tryd.func52, Tryd.ntmps52
      go_wp2
      go_ret
      exact ⟨rfl, rfl⟩
  · obtain rfl : B = false := by rw [← unhide HB]; exact decide_eq_false (fun q => h1 q.1)
    go_enter Tryd.func52, Tryd.ntmps52
    go_wp2
    go_ret
    exact ⟨rfl, rfl⟩
end Go.Proofs.YtolblldpdgfkmaaDoor
