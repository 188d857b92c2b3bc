import Derived.Test.YtpjoibolhkgkhaaGreatDoorXfe
namespace Go.Proofs.YtpjoibolhkgkhaaGreatDoor
open Go.RowKit
set_option maxRecDepth 100000
/-- two boxes behind a world -/
theorem two_boxes (wr : World) (A B : Array Value) (S T : TypeId) : Blk ((wr.alloc (.cells A S)).alloc (.cells B T)) wr.heap.size A S ∧ Blk ((wr.alloc (.cells A S)).alloc (.cells B T)) (wr.heap.size + 1) B T ∧ Below wr.heap.size wr ((wr.alloc (.cells A S)).alloc (.cells B T)) ∧ ((wr.alloc (.cells A S)).alloc (.cells B T)).heap.size = wr.heap.size + 2 := by
  have h1 := Blk.new wr S A
  have hs : (wr.alloc (.cells A S)).heap.size = wr.heap.size + 1 := by simp
  have h2 := Blk.new (wr.alloc (.cells A S)) T B
  rw [hs] at h2
  exact ⟨h1.alloc _, h2, ((Below.refl _ _).alloc (Nat.le_refl _) _).alloc (by omega) _, by simp⟩
set_option maxHeartbeats 2000000 in
theorem nlay_any {w wr : World} {base b : Nat} {v : Value} {l : List Int} (h : WPost base b v l 0 w wr) (hb : base ≤ w.heap.size) (bb lo hi : Nat) (h1 : 1 ≤ bb) (h8 : bb ≤ 8) (hfit : (hi : Int) < 2 ^ (8 * bb)) (p : Prt) (hsz : l.length ≤ 1000) :
    Calls Tryz.prog 130 #[.agg #[.int .i64 (bb : Int), .int .i64 (lo : Int), .int .i64 (hi : Int)], .pointer (some ⟨b, 0, none⟩), .agg p.cs] wr fun e w' => e = .returned (.bool (decide ((lo : Int) ≤ p.n ∧ p.n ≤ (hi : Int)))) ∧ WPost base b v (if decide ((lo : Int) ≤ p.n ∧ p.n ≤ (hi : Int)) = true then l ++ numB p.n bb else l) 0 w w' := by
  obtain ⟨n, t, q, m, c⟩ := p
  show Calls Tryz.prog 130 #[.agg #[.int .i64 (bb : Int), .int .i64 (lo : Int), .int .i64 (hi : Int)], .pointer (some ⟨b, 0, none⟩), .agg #[.int .i64 n, .string t, .slice q m c]] wr fun e w' => e = .returned (.bool (decide ((lo : Int) ≤ n ∧ n ≤ (hi : Int)))) ∧ WPost base b v (if decide ((lo : Int) ≤ n ∧ n ≤ (hi : Int)) = true then l ++ numB n bb else l) 0 w w'
  obtain ⟨B1, B2, hbl, hs2⟩ := two_boxes wr #[.int .i64 (bb : Int), .int .i64 (lo : Int), .int .i64 (hi : Int)] #[.int .i64 n, .string t, .slice q m c] 119 103
  obtain ⟨g, hg⟩ : ∃ g, wr.heap.size = g := ⟨_, rfl⟩
  rw [hg] at B1 B2 hs2
  obtain ⟨y, hy⟩ : ∃ Z, (wr.alloc (.cells #[.int .i64 (bb : Int), .int .i64 (lo : Int), .int .i64 (hi : Int)] 119)).alloc (.cells #[.int .i64 n, .string t, .slice q m c] 103) = Z := ⟨_, rfl⟩
  rw [hy] at B1 B2 hbl hs2
  have HM := hide (mayBe_any (bb : Int) (lo : Int) (hi : Int) n)
  have HY := hide (And.intro B1 (And.intro B2 (And.intro (h.below hbl) hs2)))
  have a0 : y.cell? ⟨g, 0, none⟩ = some (.int .i64 (bb : Int)) := by rw [B1.cell]; rfl
  have a1 : y.cell? ⟨g, 1, none⟩ = some (.int .i64 (lo : Int)) := by rw [B1.cell]; rfl
  have a2 : y.cell? ⟨g, 2, none⟩ = some (.int .i64 (hi : Int)) := by rw [B1.cell]; rfl
  have a3 : y.cell? ⟨g + 1, 0, none⟩ = some (.int .i64 n) := by rw [B2.cell]; rfl
  have HFit := hide (fun (hq : (lo : Int) ≤ n ∧ n ≤ (hi : Int)) => (show fitsP n bb from ⟨by omega, Int.ediv_eq_zero_of_lt (by omega) (by omega)⟩))
  clear B1 B2 hbl hs2 h hfit
  by_cases hq : (lo : Int) ≤ n ∧ n ≤ (hi : Int)
  · rw [decide_eq_true hq] at HM ⊢
    rw [if_pos rfl]
    have HFT := hide (unhide HFit hq)
    clear hq HFit
    obtain ⟨l', hl'⟩ : ∃ q, l ++ numB n bb = q := ⟨_, rfl⟩
    have HL' := hide hl'
    rw [hl']
    clear hl'
    go_enter Tryz.func130, Tryz.ntmps130
    go_wp2_with fail
    refine (unhide HM y).mono ?_
    rintro e x ⟨rfl, hx⟩
    obtain ⟨B1, B2, hW, hs2⟩ := unhide HY
    have C1 := B1.below hx (by omega)
    have C2 := B2.below hx (by omega)
    have hWx := hW.below hx
    have b0 : x.cell? ⟨g, 0, none⟩ = some (.int .i64 (bb : Int)) := by rw [C1.cell]; rfl
    have b3 : x.cell? ⟨g + 1, 0, none⟩ = some (.int .i64 n) := by rw [C2.cell]; rfl
    clear a0 a1 a2 a3 hx B1 B2 C1 C2 hW hs2 HY hy
    have HN := hide (wnumK hWx hb bb h1 h8 n (unhide HFT) hsz (bb : Int) rfl _ (unhide HL'))
    clear hWx
    go_wp2_with (go_at_call 29; refine (unhide HN).mono ?_; rintro e z ⟨rfl, hz⟩; have HZ := hide hz; clear hz)
    go_ret
    exact ⟨rfl, unhide HZ⟩
  · rw [decide_eq_false hq] at HM ⊢
    rw [if_neg (by decide)]
    clear hq HFit
    go_enter Tryz.func130, Tryz.ntmps130
    go_wp2_with fail
    refine (unhide HM y).mono ?_
    rintro e x ⟨rfl, hx⟩
    obtain ⟨B1, B2, hW, hs2⟩ := unhide HY
    have C1 := B1.below hx (by omega)
    have C2 := B2.below hx (by omega)
    have hWx := hW.below hx
    have b0 : x.cell? ⟨g, 0, none⟩ = some (.int .i64 (bb : Int)) := by rw [C1.cell]; rfl
    have b3 : x.cell? ⟨g + 1, 0, none⟩ = some (.int .i64 n) := by rw [C2.cell]; rfl
    clear a0 a1 a2 a3 hx B1 B2 C1 C2 hW hs2 HY hy
    have HW := hide hWx
    clear hWx
    go_wp2
    go_ret
    exact ⟨rfl, unhide HW⟩
set_option maxHeartbeats 2000000 in
theorem tlay_any {w wr : World} {base b : Nat} {v : Value} {l : List Int} (h : WPost base b v l 0 w wr) (hb : base ≤ w.heap.size) (bb : Nat) (h8 : bb ≤ 256) (p : Prt) (hsz : l.length ≤ 1000) :
    Calls Tryz.prog 134 #[.agg #[.int .i64 (bb : Int)], .pointer (some ⟨b, 0, none⟩), .agg p.cs] wr fun e w' => e = .returned (.bool (decide (p.t.size = bb))) ∧ WPost base b v (if decide (p.t.size = bb) = true then l ++ nums p.t else l) 0 w w' := by
  obtain ⟨n, t, q, m, c⟩ := p
  show Calls Tryz.prog 134 #[.agg #[.int .i64 (bb : Int)], .pointer (some ⟨b, 0, none⟩), .agg #[.int .i64 n, .string t, .slice q m c]] wr fun e w' => e = .returned (.bool (decide (t.size = bb))) ∧ WPost base b v (if decide (t.size = bb) = true then l ++ nums t else l) 0 w w'
  obtain ⟨B1, B2, hbl, hs2⟩ := two_boxes wr #[.int .i64 (bb : Int)] #[.int .i64 n, .string t, .slice q m c] 128 103
  obtain ⟨g, hg⟩ : ∃ g, wr.heap.size = g := ⟨_, rfl⟩
  rw [hg] at B1 B2 hs2
  obtain ⟨y, hy⟩ : ∃ Z, (wr.alloc (.cells #[.int .i64 (bb : Int)] 128)).alloc (.cells #[.int .i64 n, .string t, .slice q m c] 103) = Z := ⟨_, rfl⟩
  rw [hy] at B1 B2 hbl hs2
  have hWy := h.below hbl
  have a0 : y.cell? ⟨g, 0, none⟩ = some (.int .i64 (bb : Int)) := by rw [B1.cell]; rfl
  have a3 : y.cell? ⟨g + 1, 1, none⟩ = some (.string t) := by rw [B2.cell]; rfl
  clear B1 B2 hbl hs2 h
  by_cases hq : t.size = bb
  · rw [decide_eq_true hq, if_pos rfl]
    have hne : ((t.size : Int) != (bb : Int)) = false := by simp; omega
    have HR := hide (rawK hWy hb t (by omega))
    rw [wl_good] at HR
    clear hq hWy
    generalize l ++ nums t = l' at *
    go_enter Tryz.func134, Tryz.ntmps134
    go_wp2_with (go_at_call 64; refine (unhide HR).mono ?_; rintro e z ⟨rfl, hz⟩; have HZ := hide hz; clear hz)
    go_ret
    exact ⟨rfl, unhide HZ⟩
  · rw [decide_eq_false hq, if_neg (by decide)]
    have hne : ((t.size : Int) != (bb : Int)) = true := by simp; omega
    have HW := hide hWy
    clear hq hWy
    go_enter Tryz.func134, Tryz.ntmps134
    go_wp2
    go_ret
    exact ⟨rfl, unhide HW⟩
end Go.Proofs.YtpjoibolhkgkhaaGreatDoor
