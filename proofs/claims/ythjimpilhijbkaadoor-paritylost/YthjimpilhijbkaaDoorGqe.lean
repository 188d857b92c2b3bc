import Derived.Test.YthjimpilhijbkaaDoorGqd
namespace Go.Proofs.YthjimpilhijbkaaDoor
open Go.RowKit
set_option maxRecDepth 100000
theorem join_part {s : ByteArray} {n m : Nat} {LL : List ByteArray} (h : Part s n m LL) (w : World) (p : Option Addr) (B c : Nat) (hL : GTx w B p LL) (hB : B ≤ w.heap.size) (hc : n + m ≤ c) : Calls Tryd.prog 7 #[.slice p (n + m) c, .int .i64 (n : Int), .int .i64 (m : Int)] w fun e w' => Below w.heap.size w w' ∧ ((thr LL (n + m)).length < n → e = .returned (.tuple #[.string ⟨#[]⟩, .int .i64 182])) ∧ (n ≤ (thr LL (n + m)).length → e = .returned (.tuple #[.string s, .int .i64 0])) := by
  refine (pjoin_any w LL (n + m) n m B c p h.len rfl h.n1 h.n2 h.m8 hL hB h.szb hc).mono ?_
  rintro e w' ⟨hb, _, h2, h3⟩
  refine ⟨hb, h2 h.frm, fun ht => ?_⟩
  obtain ⟨len, y, _, hf, h4, _⟩ := h3 h.frm ht
  have hok := st_ok s n h.n1 h.sz6
  rw [h.str ht hf] at h4
  rw [h4 hok.1, hok.2]
theorem reb_part {s : ByteArray} {n m : Nat} {LL : List ByteArray} (h : Part s n m LL) (w : World) (p : Option Addr) (B c : Nat) (hL : GTx w B p LL) (hB : B ≤ w.heap.size) : Calls Tryd.prog 8 #[.slice p (n + m) c, .int .i64 (n : Int), .int .i64 (m : Int)] w fun e w' => Below w.heap.size w w' ∧ ((thr LL (n + m)).length < n → e = .returned (.tuple #[.slice none 0 0, .int .i64 182])) ∧ (n ≤ (thr LL (n + m)).length → ∃ p' c', e = .returned (.tuple #[.slice p' (n + m) c', .int .i64 0]) ∧ GTx w' w'.heap.size p' (spL s n m)) := by
  refine (preb_any w LL (n + m) n m B c p h.len rfl h.n1 h.n2 h.m8 hL hB h.szb).mono ?_
  rintro e w' ⟨hb, _, h2, h3⟩
  refine ⟨hb, h2 h.frm, fun ht => ?_⟩
  obtain ⟨len, y, p', c', _, hf, e4, ho⟩ := h3 h.frm ht
  refine ⟨p', c', e4, own_gtx (base := w.heap.size) (c := c') (Part.all h.n1 h.n2 h.m8 h.sz6).len ?_⟩
  · have e5 : filL n len y LL (n + m) = (spL s n m).map Value.string := by
      have hl := (Part.all (s := s) h.n1 h.n2 h.m8 h.sz6).len
      unfold filL
      apply List.ext_getElem
      · simp [hl]
      · intro i h1 h2
        rw [List.length_map, hl] at h2
        rw [List.getElem_map, List.getElem_map, List.getElem_range, h.fil ht hf i h2, List.getD_eq_getElem?_getD, List.getElem?_eq_getElem (by rw [hl]; exact h2)]
        rfl
    rw [e5] at ho
    exact ho
theorem wrong_part {s : ByteArray} {n m : Nat} {LL : List ByteArray} (h : Part s n m LL) (w : World) (p : Option Addr) (B c : Nat) (hL : GTx w B p LL) (hB : B ≤ w.heap.size) : Calls Tryd.prog 9 #[.slice p (n + m) c, .int .i64 (n : Int), .int .i64 (m : Int)] w fun e w' => Below w.heap.size w w' ∧ ((thr LL (n + m)).length < n → e = .returned (.tuple #[.bool false, .int .i64 182])) ∧ (n ≤ (thr LL (n + m)).length → e = .returned (.tuple #[.bool false, .int .i64 0])) := by
  refine (pwrong_any w LL (n + m) n m B c p h.len rfl h.n1 h.n2 h.m8 hL hB h.szb).mono ?_
  rintro e w' ⟨hb, _, h2, h3⟩
  refine ⟨hb, h2 h.frm, fun ht => ?_⟩
  obtain ⟨len, y, b, _, hf, e4, h5⟩ := h3 h.frm ht
  have hbf : b = false := by
    cases b with
    | false => rfl
    | true =>
      obtain ⟨k, _, h7, h8, h9⟩ := h5.1 rfl
      exact absurd ((h.sz h7 h8).2.trans ((h.say ht hf).2 k h7).symm) h9
  rw [e4, hbf]
theorem wrong_spoilt {s : ByteArray} {n m : Nat} {LL : List ByteArray} (h : Part s n m LL) (ht : n ≤ (thr LL (n + m)).length) (x : Nat) (hx : x < n + m) (hxs : Go.Proofs.YthjimpilhijbkaaDoor.sz LL x ≠ 0) (y v : Nat) (hy : y < sz LL x) (hv : v < 256) (hv1 : 1 ≤ v) (w : World) (p : Option Addr) (B c : Nat) (hL : GTx w B p (LL.set x (spo (LL.getD x ByteArray.empty) y v))) (hB : B ≤ w.heap.size) : Calls Tryd.prog 9 #[.slice p (n + m) c, .int .i64 (n : Int), .int .i64 (m : Int)] w fun e w' => Below w.heap.size w w' ∧ e = .returned (.tuple #[.bool (decide (n < (thr LL (n + m)).length)), .int .i64 0]) := by
  obtain ⟨h1, h2⟩ := h.sz hx hxs
  have hxl : x < LL.length := by rw [h.len]; exact hx
  obtain ⟨X, hX⟩ : ∃ X, spo (LL.getD x ByteArray.empty) y v = X := ⟨_, rfl⟩
  have hXs : X.size = stN s.size n := by rw [← hX, spo_size]; exact h1
  have hXq : gB X y ≠ gB ((spL s n m).getD x ByteArray.empty) y := by
    rw [← hX, ← h2]
    exact spo_ne _ y v hy hv hv1
  rw [hX] at hL
  have hb9 := stN_big s.size n h.n1 h.sz6
  have hp9 := stN_pos s.size n h.n1
  have hs2 : ∀ j, Go.Proofs.YthjimpilhijbkaaDoor.sz (LL.set x X) j = 0 ↔ Go.Proofs.YthjimpilhijbkaaDoor.sz LL j = 0 := fun j => by
    rw [sz_set LL x j X hxl]
    by_cases q : j = x
    · rw [if_pos q, q]
      exact ⟨fun e => by omega, fun e => absurd e hxs⟩
    · rw [if_neg q]
  have hfr : frm (LL.set x X) (n + m) := ⟨stN s.size n, hb9, fun j hj hs => by
    rw [sz_set LL x j X hxl] at hs ⊢
    by_cases q : j = x
    · rw [if_pos q]; exact hXs
    · rw [if_neg q] at hs ⊢; exact (h.sz hj hs).1⟩
  have hT : thr (LL.set x X) (n + m) = thr LL (n + m) := thr_congr (fun j _ => hs2 j)
  refine (pwrong_any w (LL.set x X) (n + m) n m B c p (by rw [List.length_set]; exact h.len) rfl h.n1 h.n2 h.m8 hL hB (fun j => by
    rw [sz_set LL x j X hxl]
    by_cases q : j = x
    · rw [if_pos q]; omega
    · rw [if_neg q]; exact h.szb j)).mono ?_
  rintro e w' ⟨hb, _, _, h3⟩
  obtain ⟨len, yy, b, _, hf, e4, h5⟩ := h3 hfr (by rw [hT]; exact ht)
  have h6 := h.told ht x hx hxs X hXs y (by omega) hXq hf
  refine ⟨hb, ?_⟩
  have h7 : b = decide (n < (thr LL (n + m)).length) := by
    have h8 := h5.trans h6
    cases b with
    | true => exact (decide_eq_true (h8.1 rfl)).symm
    | false => exact (decide_eq_false (fun q => by have := h8.2 q; cases this)).symm
  rw [e4, h7]
/-- an append of texts that lie anywhere -/
theorem wpList_app_txt (w : World) {ops : Array Oper} {rest : List Oper} {o : Oper} {a : Act} {Q : Exit → Act → World → Prop} (hg : o.guard = none) (s x : Operand) (hop : o.op = .call { callee := .builtin .append, args := #[s, x], argTypes := #[25, 25] }) (base : Nat) (v : Value) (n : Nat) (xs : List Value) (hs : a.eval s = v) (hown : w.ownsRow base 9 1 v n xs) (B : Nat) (p : Addr) (m c : Nat) (L : List ByteArray) (hx : a.eval x = .slice (some p) m c) (hL : L.length = m) (hG : GTx w B (some p) L) (hsz : (n + m) * 16 ≤ 140737488355328) (hbase : base ≤ w.heap.size) (h : ∀ v' w', w'.ownsRow base 9 1 v' (n + m) (xs ++ L.map Value.string) → w.grownBy w' v.ownBlock → wpList Tryd.prog ops Q rest (a.put o.dst v') w') : wpList Tryd.prog ops Q (o :: rest) a w := by
  obtain ⟨i0, hi, hz0, hz1, hz2⟩ := info_parts gr_str
  refine wpList_append_own w hg s x 25 hop base 9 i0 (.string ⟨#[]⟩) 1 16 Tryd.underlying25 hi hz0 hz1 hz2 rfl (by decide) v n xs hs hown p m c (L.map Value.string) hx (by simp [hL]) (fun j u hu => ?_) (by simp [Value.oneCell']) (by unfold maxLen; omega) hsz hbase (fun v' w' h1 h2 _ => h v' w' h1 h2)
  rw [List.getElem?_map] at hu
  by_cases hj : j < L.length
  · obtain ⟨g, o, e, _, hc⟩ := hG j hj
    injection e with e
    subst e
    rw [List.getElem?_eq_getElem hj] at hu
    rw [Addr.add_mid, hc, List.getD_eq_getElem?_getD, List.getElem?_eq_getElem hj]
    simpa using hu
  · rw [List.getElem?_eq_none (by omega)] at hu
    cases hu
end Go.Proofs.YthjimpilhijbkaaDoor
