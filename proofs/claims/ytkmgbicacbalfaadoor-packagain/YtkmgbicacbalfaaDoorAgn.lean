import Derived.Test.YtkmgbicacbalfaaDoorPag
namespace Go.Proofs.YtkmgbicacbalfaaDoor
open Go.RowKit
/-- The Reader of S at H, the Writer behind it. -/
structure AS (S : ByteArray) (w : World) (wr : World) (a : Nat) (e : Int) (v : Value) (l : List Int) : Prop where
  rd : Rds wr w.heap.size (rst S a e)
  wt : Wtr wr (w.heap.size + 1) (w.heap.size + 1) v l 0
  ety : ETy wr
  bel : Below w.heap.size w wr
theorem AS.own {S : ByteArray} {w wr : World} {a : Nat} {e : Int} {v : Value} {l : List Int} (h : AS S w wr a e v l) : ∀ k, Fp (w.heap.size + 1) v k → w.heap.size + 1 ≤ k ∧ k < wr.heap.size := by
  rintro k (rfl | hk)
  · exact ⟨Nat.le_refl _, h.wt.lt⟩
  · exact ⟨(h.wt.2.1.lt _ hk).1, (h.wt.2.1.lt _ hk).2⟩
theorem AS.below {S : ByteArray} {w wr w2 : World} {a : Nat} {e : Int} {v : Value} {l : List Int} (h : AS S w wr a e v l) (hb : Below wr.heap.size wr w2) : AS S w w2 a e v l := by
  have hO : Only (fun _ => False) wr w2 := Only.of_below hb
  exact ⟨h.rd.only hO id, h.wt.only hO (fun _ _ q => q), h.ety.below hb h.ety.lt, h.bel.trans (hb.mono h.bel.size)⟩
theorem AS.alloc {S : ByteArray} {w wr : World} {a : Nat} {e : Int} {v : Value} {l : List Int} (h : AS S w wr a e v l) (o : Obj) : AS S w (wr.alloc o) a e v l := h.below ((Below.refl _ _).alloc (Nat.le_refl _) o)
theorem AS.read {S : ByteArray} {w wr w2 : World} {a a' : Nat} {e e' : Int} {v : Value} {l : List Int} (h : AS S w wr a e v l) (hr : Rds w2 w.heap.size (rst S a' e')) (ho : Only (fun k => k = w.heap.size) wr w2) : AS S w w2 a' e' v l :=
  ⟨hr, h.wt.only ho (fun k hk q => by have := (h.own k hk).1; have q : k = w.heap.size := q; omega), h.ety.only ho (fun q => h.rd.ne h.ety q.symm), h.bel.trans (ho.below h.bel.size (fun k hk q => by have q : k = w.heap.size := q; omega))⟩
theorem AS.wrote {S : ByteArray} {w wr w2 : World} {a : Nat} {e : Int} {v : Value} {l l' : List Int} (h : AS S w wr a e v l) (hp : WPost (w.heap.size + 1) (w.heap.size + 1) v l' 0 wr w2) : ∃ v', AS S w w2 a e v' l' := by
  obtain ⟨v1, h1, h2, _⟩ := hp
  refine ⟨v1, h.rd.only h2 (fun q => by have := (h.own _ q).1; omega), h1, h.ety.only h2 (fun q => by have := (h.own _ q).1; omega), h.bel.trans (h2.below h.bel.size (fun k hk q => by have := (h.own _ q).1; omega))⟩
theorem AS.base {S : ByteArray} {w wr : World} {a : Nat} {e : Int} {v : Value} {l : List Int} (h : AS S w wr a e v l) : w.heap.size + 1 ≤ wr.heap.size := by have := h.wt.lt; omega
theorem take_more (S : ByteArray) (a c : Nat) : (nums S).take a ++ (nums (S.extract a S.size)).take c = (nums S).take (a + c) := by
  rw [nums_tail, List.take_add]
theorem be_fits (l : List Int) (hb : Bytes l) (k : Nat) : fitsP (beN (l.take k)) k := by
  have h := be_bound l hb k
  refine ⟨h.1, Int.ediv_eq_zero_of_lt h.1 ?_⟩
  have e : (2 : Int) ^ (8 * k) = 256 ^ k := by rw [Int.pow_mul]; rfl
  rw [e]
  exact h.2
theorem aNum (S : ByteArray) (a : Nat) (e : Int) (ha : a ≤ S.size) (hs : S.size ≤ 140737488351233) (he33 : e ≠ 33) (x : Int) : ∃ (V : Int) (a' : Nat) (e' : Int), a' ≤ S.size ∧ e' ≠ 33 ∧
    ((e' = 0 ∧ errN x [V] = 0 ∧ (nums S).take a ++ outN x.toNat [V] = (nums S).take a') ∨ (e' ≠ 0 ∧ a' = a)) ∧
    (∀ w wr v l, AS S w wr a e v l → Calls Tryd.prog 6 #[.pointer (some ⟨w.heap.size, 0, none⟩), .int .i64 x] wr fun ev w' => ev = .returned (.int .i64 V) ∧ AS S w w' a' e' v l ∧ Only (fun k => k = w.heap.size) wr w') := by
  by_cases he : e = 0
  · subst he
    refine ⟨numV x (S.extract a S.size), stepA a (numE x (S.extract a S.size)) (x.toNat), numE x (S.extract a S.size), stepA_le S a _ _ ha (fun h => (numE_le _ _ h).1), numE_33 x (S.extract a S.size), ?_, fun w wr v l h => ?_⟩
    · by_cases hE : numE x (S.extract a S.size) = 0
      · left
        have hx := numE_le _ _ hE
        have hv : numV x (S.extract a S.size) = beN ((nums (S.extract a S.size)).take x.toNat) := by rw [numV, if_pos hE]
        refine ⟨hE, ?_, ?_⟩
        · rw [errN, if_neg (by omega), if_pos]
          intro n hn
          simp at hn
          subst hn
          rw [hv]
          exact be_fits _ (nums_bytes _) _
        · rw [hv]
          unfold stepA
          rw [if_pos hE, ← take_more S a]
          congr 1
          simp only [outN, List.flatMap_cons, List.flatMap_nil, List.append_nil]
          exact numB_be _ (nums_bytes _) _ (by rw [nums_len]; exact hx.1)
      · right
        exact ⟨hE, by unfold stepA; rw [if_neg hE]⟩
    · refine (numS wr w.heap.size (rst S a 0) h.rd h.ety (rst_ok S a 0 ha (by omega)) x).mono ?_
      rintro ev w' ⟨rfl, h1, h2⟩
      refine ⟨rfl, h.read ?_ h2, h2⟩
      rw [← rst_step]
      exact h1
  · refine ⟨0, a, e, ha, he33, .inr ⟨he, rfl⟩, fun w wr v l h => ?_⟩
    refine (numS wr w.heap.size (rst S a e) h.rd h.ety (rst_ok S a e ha (by omega)) x).mono ?_
    rintro ev w' ⟨h0, h1, h2⟩
    have hst : stepR (rst S a e) = fun _ _ => rst S a e := by
      funext E c
      unfold stepR
      exact if_neg he
    rw [hst] at h1
    refine ⟨?_, h.read h1 h2, h2⟩
    rw [h0]
    simp only [rst, he, if_false]
theorem aVar (S : ByteArray) (a : Nat) (e : Int) (ha : a ≤ S.size) (hs : S.size ≤ 140737488351233) (he33 : e ≠ 33) : ∃ (V : Int) (a' : Nat) (e' : Int), a' ≤ S.size ∧ e' ≠ 33 ∧
    (0 ≤ V ∧ V ≤ 9223372036854775807 ∧ ((e' = 0 ∧ (nums S).take a ++ digN V.toNat = (nums S).take a') ∨ (e' ≠ 0 ∧ a' = a))) ∧
    (∀ w wr v l, AS S w wr a e v l → Calls Tryd.prog 12 #[.pointer (some ⟨w.heap.size, 0, none⟩)] wr fun ev w' => ev = .returned (.int .i64 V) ∧ AS S w w' a' e' v l ∧ Only (fun k => k = w.heap.size) wr w') := by
  by_cases he : e = 0
  · subst he
    refine ⟨(varV (S.extract a S.size) : Int), stepA a (varE (S.extract a S.size)) (varC (S.extract a S.size)), varE (S.extract a S.size), stepA_le S a _ _ ha (varC_le _), varE_33 (S.extract a S.size), ?_, fun w wr v l h => ?_⟩
    · refine ⟨by omega, by have := var_max (S.extract a S.size); omega, ?_⟩
      by_cases hE : varE (S.extract a S.size) = 0
      · left
        refine ⟨hE, ?_⟩
        rw [Int.toNat_natCast, (var_back _ hE).1]
        unfold stepA
        rw [if_pos hE, ← take_more S a]
      · right
        exact ⟨hE, by unfold stepA; rw [if_neg hE]⟩
    · refine (varS wr w.heap.size (rst S a 0) h.rd h.ety (rst_ok S a 0 ha (by omega))).mono ?_
      rintro ev w' ⟨rfl, h1, h2⟩
      refine ⟨rfl, h.read ?_ h2, h2⟩
      rw [← rst_step]
      exact h1
  · refine ⟨0, a, e, ha, he33, ⟨by decide, by decide, .inr ⟨he, rfl⟩⟩, fun w wr v l h => ?_⟩
    refine (varS wr w.heap.size (rst S a e) h.rd h.ety (rst_ok S a e ha (by omega))).mono ?_
    rintro ev w' ⟨h0, h1, h2⟩
    have hst : stepR (rst S a e) = fun _ _ => rst S a e := by
      funext E c
      unfold stepR
      exact if_neg he
    rw [hst] at h1
    refine ⟨?_, h.read h1 h2, h2⟩
    rw [h0]
    simp only [rst, he, if_false]
theorem aRaw (S : ByteArray) (a : Nat) (e : Int) (ha : a ≤ S.size) (hs : S.size ≤ 140737488351233) (he33 : e ≠ 33) (x : Int) : ∃ (V : ByteArray) (a' : Nat) (e' : Int), a' ≤ S.size ∧ e' ≠ 33 ∧
    ((nums S).take a ++ nums V = (nums S).take a' ∧ a + V.size ≤ S.size) ∧
    (∀ w wr v l, AS S w wr a e v l → Calls Tryd.prog 15 #[.pointer (some ⟨w.heap.size, 0, none⟩), .int .i64 x] wr fun ev w' => ev = .returned (.string V) ∧ AS S w w' a' e' v l ∧ Only (fun k => k = w.heap.size) wr w') := by
  by_cases he : e = 0
  · subst he
    refine ⟨rawV x (S.extract a S.size), stepA a (rawE x (S.extract a S.size)) (x.toNat), rawE x (S.extract a S.size), stepA_le S a _ _ ha (fun h => (rawE_le _ _ h).1), rawE_33 x (S.extract a S.size), ?_, fun w wr v l h => ?_⟩
    · have hrs : (S.extract a S.size).size = S.size - a := by simp
      by_cases hE : rawE x (S.extract a S.size) = 0
      · have hx := rawE_le _ _ hE
        have hv : rawV x (S.extract a S.size) = (S.extract a S.size).extract 0 x.toNat := by rw [rawV, if_pos hE]
        rw [hv]
        unfold stepA
        rw [if_pos hE, ← take_more S a]
        refine ⟨by rw [nums_extract, List.drop_zero], ?_⟩
        have : ((S.extract a S.size).extract 0 x.toNat).size = min x.toNat (S.extract a S.size).size := by simp
        omega
      · have hv : rawV x (S.extract a S.size) = ⟨#[]⟩ := by rw [rawV, if_neg hE]
        rw [hv]
        unfold stepA
        rw [if_neg hE]
        exact ⟨List.append_nil _, ha⟩
    · refine (rawS wr w.heap.size (rst S a 0) h.rd h.ety (rst_ok S a 0 ha (by omega)) x).mono ?_
      rintro ev w' ⟨rfl, h1, h2⟩
      refine ⟨rfl, h.read ?_ h2, h2⟩
      rw [← rst_step]
      exact h1
  · refine ⟨⟨#[]⟩, a, e, ha, he33, ⟨List.append_nil _, ha⟩, fun w wr v l h => ?_⟩
    refine (rawS wr w.heap.size (rst S a e) h.rd h.ety (rst_ok S a e ha (by omega)) x).mono ?_
    rintro ev w' ⟨h0, h1, h2⟩
    have hst : stepR (rst S a e) = fun _ _ => rst S a e := by
      funext E c
      unfold stepR
      exact if_neg he
    rw [hst] at h1
    refine ⟨?_, h.read h1 h2, h2⟩
    rw [h0]
    simp only [rst, he, if_false]
theorem aText (S : ByteArray) (a : Nat) (e : Int) (ha : a ≤ S.size) (hs : S.size ≤ 140737488351233) (he33 : e ≠ 33) (x : Int) : ∃ (V : ByteArray) (a' : Nat) (e' : Int), a' ≤ S.size ∧ e' ≠ 33 ∧
    ((e' = 0 ∧ errX x V.size = 0 ∧ a + V.size ≤ S.size ∧ (nums S).take a ++ (digN V.size ++ nums V) = (nums S).take a') ∨ (e' ≠ 0 ∧ a' = a)) ∧
    (∀ w wr v l, AS S w wr a e v l → Calls Tryd.prog 16 #[.pointer (some ⟨w.heap.size, 0, none⟩), .int .i64 x] wr fun ev w' => ev = .returned (.string V) ∧ AS S w w' a' e' v l ∧ Only (fun k => k = w.heap.size) wr w') := by
  by_cases he : e = 0
  · subst he
    refine ⟨textV x (S.extract a S.size), stepA a (textE x (S.extract a S.size)) (varC (S.extract a S.size) + varV (S.extract a S.size)), textE x (S.extract a S.size), stepA_le S a _ _ ha (fun h => (textE_le _ _ h).1), textE_33 x (S.extract a S.size), ?_, fun w wr v l h => ?_⟩
    · have hrs : (S.extract a S.size).size = S.size - a := by simp
      by_cases hE : textE x (S.extract a S.size) = 0
      · left
        have hx := textE_le _ _ hE
        have hv : textV x (S.extract a S.size) = (S.extract a S.size).extract (varC (S.extract a S.size)) (varC (S.extract a S.size) + varV (S.extract a S.size)) := by rw [textV, if_pos hE]
        have hsz : (textV x (S.extract a S.size)).size = varV (S.extract a S.size) := by
          rw [hv]
          have : ((S.extract a S.size).extract (varC (S.extract a S.size)) (varC (S.extract a S.size) + varV (S.extract a S.size))).size = min (varC (S.extract a S.size) + varV (S.extract a S.size)) (S.extract a S.size).size - varC (S.extract a S.size) := by simp
          omega
        refine ⟨hE, ?_, ?_, ?_⟩
        · rw [hsz]
          rw [errX, if_neg (by omega), if_neg (by omega)]
        · rw [hsz]; omega
        · rw [hsz, (var_back _ hx.2.1).1, hv, nums_extract (S.extract a S.size)]
          unfold stepA
          rw [if_pos hE, ← take_more S a]
          congr 1
          have e1 : (nums (S.extract a S.size)).take (varC (S.extract a S.size)) = ((nums (S.extract a S.size)).take (varC (S.extract a S.size) + varV (S.extract a S.size))).take (varC (S.extract a S.size)) := by rw [List.take_take, Nat.min_eq_left (Nat.le_add_right _ _)]
          rw [e1, List.take_append_drop]
      · right
        exact ⟨hE, by unfold stepA; rw [if_neg hE]⟩
    · refine (textS wr w.heap.size (rst S a 0) h.rd h.ety (rst_ok S a 0 ha (by omega)) x).mono ?_
      rintro ev w' ⟨rfl, h1, h2⟩
      refine ⟨rfl, h.read ?_ h2, h2⟩
      rw [← rst_step]
      exact h1
  · refine ⟨⟨#[]⟩, a, e, ha, he33, .inr ⟨he, rfl⟩, fun w wr v l h => ?_⟩
    refine (textS wr w.heap.size (rst S a e) h.rd h.ety (rst_ok S a e ha (by omega)) x).mono ?_
    rintro ev w' ⟨h0, h1, h2⟩
    have hst : stepR (rst S a e) = fun _ _ => rst S a e := by
      funext E c
      unfold stepR
      exact if_neg he
    rw [hst] at h1
    refine ⟨?_, h.read h1 h2, h2⟩
    rw [h0]
    simp only [rst, he, if_false]
theorem AS.done {S : ByteArray} {w wr : World} {a : Nat} {e : Int} {v : Value} {l : List Int} (h : AS S w wr a e v l) :
    Calls Tryd.prog 10 #[.pointer (some ⟨w.heap.size, 0, none⟩)] wr fun ev w' => ev = .returned (.tuple #[.int .i64 (doneE (rst S a e).r e), .int .i64 (a : Int)]) ∧ AS S w w' a e v l ∧ Below wr.heap.size wr w' :=
  (rdone_any wr w.heap.size _ _ _ h.rd).mono (by rintro ev w' ⟨rfl, hb⟩; exact ⟨rfl, h.below hb, hb⟩)
theorem AS.wnum {S : ByteArray} {w wr : World} {a : Nat} {e : Int} {v : Value} {l : List Int} (h : AS S w wr a e v l) (x n : Int) (hE : errN x [n] = 0) (hsz : l.length + 8 ≤ 140737488355328) (l' : List Int) (hl : l ++ outN x.toNat [n] = l') :
    Calls Tryd.prog 11 #[.pointer (some ⟨w.heap.size + 1, 0, none⟩), .int .i64 x, .slice (some ⟨wr.heap.size, 0, none⟩) 1 1] (wr.alloc (Obj.cells #[.int .i64 n] 3)) fun ev w' => ev = .returned (.tuple #[]) ∧ ∃ v', AS S w w' a e v' l' := by
  refine (numK (WPost.refl h.wt) h.base x [n] #[.int .i64 n] rfl (by simpa using hsz) 1 rfl).mono ?_
  rintro ev w' ⟨rfl, hp⟩
  rw [hE, wl_good, we_good, hl] at hp
  exact ⟨rfl, h.wrote hp⟩
theorem AS.wvar {S : ByteArray} {w wr : World} {a : Nat} {e : Int} {v : Value} {l : List Int} (h : AS S w wr a e v l) (n : Int) (h0 : 0 ≤ n) (hn : n ≤ 9223372036854775807) (hsz : l.length + 9 ≤ 140737488355328) (l' : List Int) (hl : l ++ digN n.toNat = l') :
    Calls Tryd.prog 13 #[.pointer (some ⟨w.heap.size + 1, 0, none⟩), .int .i64 n] wr fun ev w' => ev = .returned (.tuple #[]) ∧ ∃ v', AS S w w' a e v' l' := by
  refine (varK (WPost.refl h.wt) h.base n hn hsz).mono ?_
  rintro ev w' ⟨rfl, hp⟩
  rw [if_neg (by omega), wl_good, we_good, hl] at hp
  exact ⟨rfl, h.wrote hp⟩
theorem AS.wraw {S : ByteArray} {w wr : World} {a : Nat} {e : Int} {v : Value} {l : List Int} (h : AS S w wr a e v l) (s : ByteArray) (hsz : l.length + s.size ≤ 140737488355328) (l' : List Int) (hl : l ++ nums s = l') :
    Calls Tryd.prog 14 #[.pointer (some ⟨w.heap.size + 1, 0, none⟩), .string s] wr fun ev w' => ev = .returned (.tuple #[]) ∧ ∃ v', AS S w w' a e v' l' := by
  refine (rawK (WPost.refl h.wt) h.base s hsz).mono ?_
  rintro ev w' ⟨rfl, hp⟩
  rw [wl_good, hl] at hp
  exact ⟨rfl, h.wrote hp⟩
theorem AS.wtext {S : ByteArray} {w wr : World} {a : Nat} {e : Int} {v : Value} {l : List Int} (h : AS S w wr a e v l) (s : ByteArray) (most : Int) (hE : errX most s.size = 0) (hsz : l.length + 9 + s.size ≤ 140737488355328) (l' : List Int) (hl : l ++ (digN s.size ++ nums s) = l') :
    Calls Tryd.prog 17 #[.pointer (some ⟨w.heap.size + 1, 0, none⟩), .string s, .int .i64 most] wr fun ev w' => ev = .returned (.tuple #[]) ∧ ∃ v', AS S w w' a e v' l' := by
  refine (textK (WPost.refl h.wt) h.base s most hsz).mono ?_
  rintro ev w' ⟨rfl, hp⟩
  rw [hE, wl_good, we_good, hl] at hp
  exact ⟨rfl, h.wrote hp⟩
theorem AS.wdone {S : ByteArray} {w wr : World} {a : Nat} {e : Int} {v : Value} {l : List Int} (h : AS S w wr a e v l) :
    Calls Tryd.prog 18 #[.pointer (some ⟨w.heap.size + 1, 0, none⟩)] wr fun ev w' => ev = .returned (.tuple #[.string (strOfNums l), .int .i64 0]) ∧ Below w.heap.size w w' := by
  refine (doneK (WPost.refl h.wt)).mono ?_
  rintro ev w' ⟨rfl, hp⟩
  obtain ⟨v', h'⟩ := h.wrote hp
  exact ⟨rfl, h'.bel⟩
theorem done_in (S : ByteArray) (a : Nat) (e : Int) : (e = 0 → doneE (rst S a e).r e = 0 ∨ doneE (rst S a e).r e = 33) ∧ (e ≠ 0 → doneE (rst S a e).r e = e) ∧ (doneE (rst S a e).r e = 0 → a ≤ S.size → a = S.size) := by
  refine ⟨fun h => ?_, fun h => ?_, fun h ha => ?_⟩
  · unfold doneE; split
    · exact .inr rfl
    · exact .inl h
  · unfold doneE; rw [if_neg (fun q => h q.1)]
  · unfold doneE at h
    split at h
    · cases h
    · rename_i hn
      have hz : ¬ 0 < (rst S a e).r.size := fun q => hn ⟨h, q⟩
      have : (rst S a e).r = S.extract a S.size := by unfold rst; rw [if_pos h]
      rw [this] at hz
      have e1 : (S.extract a S.size).size = S.size - a := by simp
      omega
end Go.Proofs.YtkmgbicacbalfaaDoor
