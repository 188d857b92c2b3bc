import Derived.Test.YtclgkgaobjcifaaGreatDoorMy19
import Derived.Test.YtclgkgaobjcifaaGreatDoorMy17
import Derived.Test.YtclgkgaobjcifaaGreatDoorMy15
import Derived.Test.YtclgkgaobjcifaaGreatDoorMy00
import Derived.Test.YtclgkgaobjcifaaGreatDoorMy01
import Derived.Test.YtclgkgaobjcifaaGreatDoorMy08
import Derived.Test.YtclgkgaobjcifaaGreatDoorMy11
import Derived.Test.YtclgkgaobjcifaaGreatDoorMy12
import Derived.Test.YtclgkgaobjcifaaGreatDoorMy06
namespace Go.Proofs.YtclgkgaobjcifaaGreatDoor
open Go.RowKit
set_option maxRecDepth 100000
theorem out1_byte : ∀ (L : List Int), (∀ k, k < L.length → 0 ≤ L.getD k 0 ∧ L.getD k 0 ≤ 255) → outN 1 L = L
  | [], _ => rfl
  | z :: L, h => by
    have h0 := h 0 (by simp)
    have e : outN 1 (z :: L) = numB z 1 ++ outN 1 L := rfl
    rw [e, numB1 z h0.1 h0.2, out1_byte L (fun k hk => by have := h (k + 1) (by simp; omega); simpa using this)]
    rfl
/-- a field's part of a reply, put into what is said -/
def setP (f : Fld) (a : PR) (r : Rep) (V Pl : List Int) : PR :=
  if f.ty = 122 then { a with qu := r.qu }
  else if f.ty = 123 then { a with ch := r.ch }
  else if f.ty = 136 then { a with V := V }
  else if f.ty = 126 then { a with no := r.no }
  else if f.ty = 135 then { a with Pl := Pl }
  else if f.ty = 131 then { a with wr := r.wr }
  else { a with da := r.da }
theorem vo_lay (V : List Int) (s : ByteArray) (i : Nat) (hk : voB V = true) (h : ((nums s).drop i).take 9 = voL V) : vtB s i = true ∧ tkB s (i + 1) (vtN s i) = V := by
  rw [voB, Bool.and_eq_true] at hk
  have h8 : V.length ≤ 8 := of_decide_eq_true hk.1
  have hA := of_decide_eq_true (show decide (∀ k, k < V.length → (1 ≤ V.getD k 0 ∧ V.getD k 0 ≤ 99) ∧ (0 < k → V.getD (k - 1) 0 < V.getD k 0)) = true from hk.2)
  have e : voL V = (V.length : Int) :: (V ++ List.replicate (8 - V.length) 0) := by
    rw [voL, numB1 _ (by omega) (by omega), out1_byte V (fun k hk => by have := (hA k hk).1; omega)]
    rfl
  rw [e] at h
  have hd : (nums s).drop i = (nums s).getD i 0 :: (nums s).drop (i + 1) := by
    have hl : i < (nums s).length := by
      have := congrArg List.length h
      rw [List.length_take, List.length_drop, List.length_cons] at this
      omega
    rw [List.getD_eq_getElem?_getD, List.getElem?_eq_getElem hl, Option.getD_some]
    exact (List.getElem_cons_drop hl).symm
  rw [hd, List.take_succ_cons] at h
  injection h with h1 h2
  have hN : vtN s i = V.length := by rw [vtN, h1]; rfl
  have hT : tkB s (i + 1) V.length = V := by
    have := congrArg (List.take V.length) h2
    rw [List.take_take, Nat.min_eq_left h8, List.take_left' rfl] at this
    exact this
  have hZ : s.extract (i + 1 + V.length) (i + 9) = strOfNums (List.replicate (8 - V.length) 0) := nums_inj (by
    rw [show i + 9 = i + 1 + V.length + (8 - V.length) by omega, nums_cut, rep0_nums]
    have := congrArg (List.drop V.length) h2
    rw [List.drop_take, List.drop_left' rfl, List.drop_drop] at this
    exact this)
  refine ⟨?_, by rw [hN]; exact hT⟩
  rw [vtB, hN, hT, hZ, decide_eq_true h8, hk.2, Bool.and_true, Bool.true_and]
  exact beq_self_eq_true _
theorem upP_lay {f : Fld} (hf : IsP f) (r : Rep) (V Pl : List Int) (s : ByteArray) (i : Nat) (a : PR) (hk : okG f (exr f r Prt.nil).2 V Pl = true) (h : ((nums s).drop i).take f.b = byG f (exr f r Prt.nil).2 V Pl) : okP f s i = true ∧ upP f a s i = setP f a r V Pl := by
  rcases hf with rfl | rfl | rfl | rfl | rfl | rfl | rfl
  · have hk' : (0 : Int) ≤ r.qu ∧ r.qu ≤ 65535 := of_decide_eq_true hk
    have e : beN (tkB s i 2) = r.qu := by rw [show tkB s i 2 = numB r.qu 2 from h, be2 _ hk'.1 hk'.2]
    exact ⟨(congrArg (fun n : Int => decide (((0 : Nat) : Int) ≤ n ∧ n ≤ ((65535 : Nat) : Int))) e).trans (decide_eq_true hk'), congrArg (fun n => ({ a with qu := n } : PR)) e⟩
  · have hk' : (0 : Int) ≤ r.ch ∧ r.ch ≤ 65535 := of_decide_eq_true hk
    have e : beN (tkB s i 2) = r.ch := by rw [show tkB s i 2 = numB r.ch 2 from h, be2 _ hk'.1 hk'.2]
    exact ⟨(congrArg (fun n : Int => decide (((0 : Nat) : Int) ≤ n ∧ n ≤ ((65535 : Nat) : Int))) e).trans (decide_eq_true hk'), congrArg (fun n => ({ a with ch := n } : PR)) e⟩
  · obtain ⟨e1, e2⟩ := vo_lay V s i hk h
    exact ⟨e1, congrArg (fun n => ({ a with V := n } : PR)) e2⟩
  · have hk' : (0 : Int) ≤ r.no ∧ r.no ≤ 4294967295 := of_decide_eq_true hk
    have e : beN (tkB s i 4) = r.no := by rw [show tkB s i 4 = numB r.no 4 from h, be4 _ hk'.1 hk'.2]
    exact ⟨(congrArg (fun n : Int => decide (((0 : Nat) : Int) ≤ n ∧ n ≤ ((4294967295 : Nat) : Int))) e).trans (decide_eq_true hk'), congrArg (fun n => ({ a with no := n } : PR)) e⟩
  · have hk' := of_decide_eq_true (show decide (Pl.length = 8 ∧ ∀ k, k < Pl.length → 0 ≤ Pl.getD k 0 ∧ Pl.getD k 0 ≤ 255) = true from hk)
    have e : tkB s i 8 = Pl := by rw [show tkB s i 8 = outN 1 Pl from h, out1_byte Pl hk'.2]
    exact ⟨rfl, congrArg (fun n => ({ a with Pl := n } : PR)) e⟩
  · exact ⟨rfl, congrArg (fun n => ({ a with wr := n } : PR)) (cut_txt s r.wr i 48 h)⟩
  · exact ⟨rfl, congrArg (fun n => ({ a with da := n } : PR)) (cut_txt s r.da i 256 h)⟩
def mrgP (V Pl : List Int) : List Fld → Rep → PR → PR
  | [], _, a => a
  | f :: fs, cur, a => mrgP V Pl fs (exr f cur Prt.nil).1 (setP f a cur V Pl)
def rstP : List Fld → Rep → Rep
  | [], cur => cur
  | f :: fs, cur => rstP fs (exr f cur Prt.nil).1
theorem takeP_lay (V Pl : List Int) : ∀ (fs : List Fld), (∀ f ∈ fs, IsP f) → ∀ (cur : Rep) (a : PR) (x : Rep × List Int) (s : ByteArray) (i : Nat), layG V Pl fs cur = some x → ((nums s).drop i).take (szF fs) = x.2 → takeP fs a s i = some (mrgP V Pl fs cur a) ∧ x.1 = rstP fs cur
  | [], _, cur, a, x, s, i, h, _ => by
    simp only [layG, Option.some.injEq] at h
    subst h
    exact ⟨rfl, rfl⟩
  | f :: fs, hF, cur, a, x, s, i, h, hb => by
    rw [layG] at h
    by_cases hok : okG f (exr f cur Prt.nil).2 V Pl = true
    · rw [if_pos hok] at h
      cases hq : layG V Pl fs (exr f cur Prt.nil).1 with
      | none => rw [hq] at h; simp at h
      | some y =>
        rw [hq] at h
        simp only [Option.map_some, Option.some.injEq] at h
        subst h
        have hf := hF f (by simp)
        have hl := byG_len hf hok
        have hb' : ((nums s).drop i).take (f.b + szF fs) = byG f (exr f cur Prt.nil).2 V Pl ++ y.2 := hb
        have hA : ((nums s).drop i).take f.b = byG f (exr f cur Prt.nil).2 V Pl := by
          have := congrArg (List.take f.b) hb'
          rw [List.take_take, Nat.min_eq_left (by omega), List.take_left' hl] at this
          exact this
        have hB : ((nums s).drop (i + f.b)).take (szF fs) = y.2 := by
          have := congrArg (List.drop f.b) hb'
          rw [List.drop_take, List.drop_left' hl, List.drop_drop] at this
          rw [← this]
          congr 1
          omega
        obtain ⟨e1, e2⟩ := upP_lay hf cur V Pl s i a hok hA
        obtain ⟨t1, t2⟩ := takeP_lay V Pl fs (fun g hg => hF g (by simp [hg])) (exr f cur Prt.nil).1 (setP f a cur V Pl) y s (i + f.b) hq hB
        refine ⟨?_, t2⟩
        rw [takeP, if_pos e1, e2]
        exact t1
    · rw [if_neg hok] at h; simp at h
def prOf (r : Rep) (V Pl : List Int) : PR := ⟨r.qu, r.ch, r.no, r.wr, r.da, V, Pl⟩
theorem len0 {V : List Int} {n : Nat} (h : V.length = n) (h0 : n = 0) : V = [] := List.eq_nil_of_length_eq_zero (by omega)
theorem mrgP_self (k : Int) (r : Rep) (V Pl : List Int) (hv : V.length = r.vm) (hp : Pl.length = r.pm) (h : bareP (rstP (rpF k) r) = true) : mrgP V Pl (rpF k) r PR.bare = prOf r V Pl := by
  have hf : rpF k = [fQuo, fCha, fVos] ∨ rpF k = [fVos] ∨ rpF k = [fQuo, fCha] ∨ rpF k = [fNon, fPla] ∨ rpF k = [fWra, fDat] ∨ rpF k = [] := by
    unfold rpF
    (repeat' split) <;> simp
  generalize rpF k = fs at *
  obtain ⟨st, qu, ch, vp, vm, vc, no, pp, pm, pc, wr, da⟩ := r
  have h' := of_decide_eq_true h
  simp only at hv hp
  rcases hf with rfl | rfl | rfl | rfl | rfl | rfl
  all_goals simp only [rstP, exr, fQuo, fCha, fVos, fNon, fPla, fWra, fDat, Prt.nil, Prt.num, Prt.txt] at h'
  all_goals (try simp at h')
  all_goals simp only [mrgP, setP, exr, fQuo, fCha, fVos, fNon, fPla, fWra, fDat, Prt.nil, prOf, PR.bare]
  all_goals (try simp)
  all_goals (clear h; simp_all)
/-- what a right frame of a reply says -/
theorem rep_good (k : Nat) (hk : k ≤ 12) (r : Rep) (V Pl : List Int) (hst : 0 ≤ r.st ∧ r.st ≤ 13) (hv : V.length = r.vm) (hp : Pl.length = r.pm) (hB : lyB (k : Int) r V Pl = true) (Y : ByteArray) (hY : nums Y = eyL (k : Int) r V Pl ++ le4 (chkN ((k : Int) :: eyL (k : Int) r V Pl))) :
    frB Y (rpF (k : Int)) (strOfNums [(k : Int)]) = true ∧ (nums Y).getD 0 0 = r.st ∧ (fullP (k : Int) r.st = true → takeP (rpF (k : Int)) PR.bare Y 1 = some (prOf r V Pl)) ∧ (fullP (k : Int) r.st = false → prOf r V Pl = PR.bare ∧ ((Y.extract 1 (1 + szF (rpF (k : Int)))).toList == (strOfNums (List.replicate (szF (rpF (k : Int))) (0 : Int))).toList) = true) := by
  have hl := lyL_full (k : Int) r V Pl hB
  have e : eyL (k : Int) r V Pl = r.st :: lyL (k : Int) r V Pl := by rw [eyL, numB1 _ (by omega) (by omega)]; rfl
  have hz : Y.size = 5 + szF (rpF (k : Int)) := by rw [← nums_len, hY, List.length_append, le4_len, (eyL_form k r V Pl hB).1]; omega
  have hc : ((nums Y).drop 1).take (szF (rpF (k : Int))) = lyL (k : Int) r V Pl := by
    rw [hY, e, List.cons_append, List.drop_succ_cons, List.drop_zero, List.take_left' hl]
  refine ⟨?_, by rw [hY, e]; rfl, fun hf => ?_, fun hf => ?_⟩
  · rw [frB, if_pos hz]
    exact ckB_true _ _ (eyL (k : Int) r V Pl) (by rw [kB_nums k hk]; exact hY)
  · rw [lyB, if_pos hf] at hB
    rw [lyL, if_pos hf] at hc
    unfold lgB at hB
    unfold lgL at hc
    cases eL : layG V Pl (rpF (k : Int)) r with
    | none => rw [eL] at hB; exact absurd (show false = true from hB) (by decide)
    | some x =>
      rw [eL] at hB hc
      obtain ⟨t1, t2⟩ := takeP_lay V Pl (rpF (k : Int)) (rpF_all (k : Int)) r PR.bare x Y 1 eL hc
      rw [t1, mrgP_self (k : Int) r V Pl hv hp (by rw [← t2]; exact hB)]
  · have hn : ¬ fullP (k : Int) r.st = true := by rw [hf]; decide
    rw [lyB, if_neg hn] at hB
    rw [lyL, if_neg hn] at hc
    have h' := of_decide_eq_true hB
    refine ⟨?_, ?_⟩
    · obtain ⟨a1, a2, a3, a4, a5, a6, a7⟩ := h'
      rw [prOf, a1, a2, a4, a6, a7, len0 hv a3, len0 hp a5]
      rfl
    · rw [show Y.extract 1 (1 + szF (rpF (k : Int))) = strOfNums (List.replicate (szF (rpF (k : Int))) (0 : Int)) from nums_inj (by rw [nums_cut, hc, rep0_nums])]
      exact beq_self_eq_true _
end Go.Proofs.YtclgkgaobjcifaaGreatDoor

namespace Go.Proofs.YtclgkgaobjcifaaGreatDoor
open Go.RowKit
set_option maxRecDepth 100000
theorem Bytes.drop {l : List Int} (h : Bytes l) (n : Nat) : Bytes (l.drop n) := Bytes.of_mem (fun _ hx => h.mem (List.mem_of_mem_drop hx))
end Go.Proofs.YtclgkgaobjcifaaGreatDoor

namespace Go.Proofs.YtclgkgaobjcifaaGreatDoor
open Go.RowKit
set_option maxRecDepth 100000
end Go.Proofs.YtclgkgaobjcifaaGreatDoor

namespace Go.Proofs.YtclgkgaobjcifaaGreatDoor
open Go.RowKit
theorem numB_cons (v : Int) (i : Nat) : numB v (i + 1) = (v / 2 ^ (8 * i) % 256) :: numB v i := by
  apply List.ext_getElem?
  intro j
  cases j with
  | zero => simp [numB]
  | succ j =>
    by_cases h : j < i
    · simp [numB, h]
      rw [show i - (j + 1) = i - 1 - j by omega]
    · simp [numB, h]
theorem strOfNums_app (a b : List Int) : strOfNums (a ++ b) = strOfNums a ++ strOfNums b := by
  simp only [strOfNums, List.map_append]
  apply ByteArray.ext
  simp
theorem strOfNums_size (l : List Int) : (strOfNums l).size = l.length := by simp [strOfNums, ByteArray.size]
/-- One byte as a text. -/
theorem run_one (w : World) (x : Int) (T : TypeId) : (convert 61 9 (.slice (some ⟨w.heap.size, 0, none⟩) 1 1)).run Tryz.prog (w.alloc (Obj.cells #[.int .u8 x] T)) = .ok (.string (strOfNums [x])) (w.alloc (Obj.cells #[.int .u8 x] T)) := by
  have hA := arr_new w .u8 [x] T #[.int .u8 x] rfl
  exact run_convert_bytes_arg (P := Tryz.prog) (w.alloc (Obj.cells #[.int .u8 x] T)) 61 5 Tryz.underlying61 Tryz.underlying5 w.heap.size 0 1 1 [x] rfl (fun i hi => hA.get i (by simpa using hi)) 9 Tryz.underlying9
set_option maxRecDepth 100000 in
set_option maxHeartbeats 1000000 in
theorem rbytes_any (n : Nat) (k : Nat) (hn : n ≤ 9223372036854775807) (hk : k ≤ 8) (w : World) :
    Calls Tryz.prog 79 #[.int .i64 (n : Int), .int .i64 (k : Int)] w fun e w' => e = .returned (.string (strOfNums (numB (n : Int) k))) ∧ Below w.heap.size w w' := by
  have HB := hide (Below.refl w.heap.size w)
  go_enter Tryz.func79, Tryz.ntmps79
  go_wp2
  go_loopw [0, 5, 6] (fun u s i wr => ∃ j m : Nat, j ≤ k ∧ (m : Int) = (n : Int) / 2 ^ (8 * j) ∧ u = .int .i64 (m : Int) ∧ i = .int .i64 (j : Int) ∧ s = .string (strOfNums (numB (n : Int) j)) ∧ Below w.heap.size w wr) (fun _ _ i _ => k - (intOf i).toNat)
  case atStart => exact ⟨0, n, by omega, by simp, rfl, rfl, rfl, unhide HB⟩
  case round =>
    obtain ⟨j, m, hj, hm, rfl, rfl, rfl, hBe⟩ := hrel
    obtain ⟨wo, rfl⟩ : ∃ wo, wo = wr := ⟨_, rfl⟩
    have HBE := hide hBe
    clear hBe HB
    have hml : m ≤ n := by
      have : (n : Int) / 2 ^ (8 * j) ≤ (n : Int) := Int.ediv_le_self _ (by omega)
      omega
    by_cases hjk : j < k
    · have hr : ((m : Int)).tmod 256 = ((m % 256 : Nat) : Int) := rfl
      obtain ⟨R, hR⟩ : ∃ R, m % 256 = R := ⟨_, rfl⟩
      obtain ⟨Q, hQ⟩ : ∃ Q, m / 256 = Q := ⟨_, rfl⟩
      have hq : ((m : Int)).tdiv 256 = (Q : Int) := by rw [← hQ]; rfl
      rw [hR] at hr
      have hR8 : R < 256 := by omega
      have hw8 : IntKind.u8.wrap (R : Int) = (R : Int) := by rw [IntKind.wrap_u8']; omega
      have hcv := run_one wo (R : Int) 5
      have hsz : (strOfNums (numB (n : Int) j)).size = j := by rw [strOfNums_size, numB_len]
      have hs1 : (strOfNums [(R : Int)]).size = 1 := rfl
      have HN := hide (show strOfNums [(R : Int)] ++ strOfNums (numB (n : Int) j) = strOfNums (numB (n : Int) (j + 1)) by
        rw [← strOfNums_app, numB_cons, ← hm, ← hR]
        have : ((m % 256 : Nat) : Int) = (m : Int) % 256 := by omega
        rw [this]
        rfl)
      have HQ := hide (show (Q : Int) = (n : Int) / 2 ^ (8 * (j + 1)) by
        rw [show 8 * (j + 1) = 8 * j + 8 by omega, Int.pow_add, ← Int.ediv_ediv_of_nonneg (by exact Int.pow_nonneg (by omega)), ← hm]
        have : (2 : Int) ^ 8 = 256 := by decide
        rw [this]
        omega)
      have hQl : Q ≤ m := by omega
      clear hR hQ hm
      generalize strOfNums (numB (n : Int) j) = S at *
      generalize strOfNums [(R : Int)] = S1 at *
      have y1 : ¬ 9223372036854775807 < S1.size + S.size := by omega
      have y2 : ¬ 9223372036854775807 < 1 + j := by omega
      go_wp2
      go_roundw
      case rel => exact ⟨j + 1, Q, by omega, unhide HQ, by go_num, by go_num, by rw [unhide HN], (unhide HBE).alloc (by have := (unhide HBE).size; omega) _⟩
      case measure => simp [intOf]; omega
    · have hjk' : j = k := by omega
      subst hjk'
      go_wp2
      go_ret
      exact ⟨rfl, unhide HBE⟩
end Go.Proofs.YtclgkgaobjcifaaGreatDoor

namespace Go.Proofs.YtclgkgaobjcifaaGreatDoor
open Go.RowKit
set_option maxRecDepth 100000 in
set_option maxHeartbeats 1000000 in
theorem rcheck_g (s : ByteArray) (G : Nat) (hG : G = chkN (nums s)) (hs : s.size ≤ 9223372036854775806) (w : World) :
    Calls Tryz.prog 50 #[.string s] w fun e w' => e = .returned (.int .i64 (G : Int)) ∧ w' = w := by
  have HG := hide hG
  clear hG
  have hix := fun (i : Nat) (hi : i < s.size) (W : World) => index_str s i hi W
  go_enter Tryz.func50, Tryz.ntmps50
  go_wp2
  go_loopw [3, 4] (fun c i wr => ∃ n : Nat, n ≤ s.size ∧ i = .int .i64 (n : Int) ∧ c = .int .i64 (crcR 4294967295 (nats ((nums s).take n)) : Int) ∧ wr = w) (fun _ i _ => s.size - (intOf i).toNat)
  case atStart => exact ⟨0, by omega, rfl, rfl, rfl⟩
  case round =>
    obtain ⟨n, hn, rfl, rfl, rfl⟩ := hrel
    obtain ⟨wo, rfl⟩ : ∃ wo, wo = wr := ⟨_, rfl⟩
    have hlt := crcR_lt (nats ((nums s).take n)) (nats_lt _ (fun j => by
      have := nums_bytes s j
      rw [List.getD_eq_getElem?_getD, List.getElem?_take]
      split
      · rw [← List.getD_eq_getElem?_getD]; exact this
      · simp)) 4294967295 (by omega)
    by_cases hns : n < s.size
    · obtain ⟨B, hB, hBe, hBt⟩ := nums_nat s n hns
      have hi2 := hix n hns
      rw [hBe] at hi2
      have HT := hide hBt
      have HC := hide (show crcR 4294967295 (nats ((nums s).take (n + 1))) = cbyte (crcR 4294967295 (nats ((nums s).take n))) B by rw [hBt, crcR, List.foldl_append]; rfl)
      clear hBt hBe hix
      generalize crcR 4294967295 (nats ((nums s).take n)) = V at *
      have hx := i64_xor_nat V B hlt (by omega)
      have hxl : V ^^^ B < 4294967296 := Nat.xor_lt_two_pow (n := 32) (by omega) (by omega)
      go_wp2
      go_loopw [3, 5] (fun c i wr => ∃ k : Nat, k ≤ 8 ∧ i = .int .i64 (k : Int) ∧ c = .int .i64 (iter k (V ^^^ B) : Int) ∧ wr = wo) (fun _ i _ => 8 - (intOf i).toNat)
      case atStart => exact ⟨0, by omega, rfl, rfl, rfl⟩
      case round =>
        obtain ⟨k, hk, rfl, rfl, rfl⟩ := hrel
        have hl := iter_lt k (V ^^^ B) hxl
        have HS := hide (iter_succ' k (V ^^^ B))
        by_cases hk8 : k < 8
        · generalize iter k (V ^^^ B) = U at *
          have ha : ((U : Int)).tmod 2 = ((U % 2 : Nat) : Int) := rfl
          obtain ⟨U2, hU2⟩ : ∃ U2, U / 2 = U2 := ⟨_, rfl⟩
          have hq : ((U : Int)).tdiv 2 = (U2 : Int) := by rw [← hU2]; rfl
          have HX2 := hide (i64_xor_nat U2 3988292384 (by omega) (by omega))
          have HU2 := hide hU2
          have hU2l : U2 < 4294967296 := by omega
          clear hU2
          rcases Nat.mod_two_eq_zero_or_one U with h | h
          · rw [h] at ha
            go_wp2
            go_roundw
            case rel => exact ⟨k + 1, by omega, by go_num, by rw [unhide HS, cstep, if_neg (by omega), Nat.xor_zero, unhide HU2], trivial⟩
            case measure => simp [intOf]; omega
          · rw [h] at ha
            go_wp2
            go_roundw
            case rel => exact ⟨k + 1, by omega, by go_num, by rw [unhide HS, cstep, if_pos h, unhide HU2, ← unhide HX2]; rfl, trivial⟩
            case measure => simp [intOf]; omega
        · obtain rfl : k = 8 := by omega
          go_wp2
          go_roundw
          case rel => exact ⟨n + 1, by omega, by go_num, by rw [unhide HC]; rfl, trivial⟩
          case measure => simp [intOf]; omega
    · have HF := hide (show G = 4294967295 - crcR 4294967295 (nats ((nums s).take n)) by rw [unhide HG, chkN, List.take_of_length_le (by rw [nums_len]; omega)])
      clear hix HG
      generalize crcR 4294967295 (nats ((nums s).take n)) = V at *
      go_wp2
      go_ret
      refine ⟨?_, rfl⟩
      have e : (G : Int) = 4294967295 - (V : Int) := by have := unhide HF; omega
      rw [e]
      rfl
theorem rcheck_any (s : ByteArray) (hs : s.size ≤ 9223372036854775806) (w : World) :
    Calls Tryz.prog 50 #[.string s] w fun e w' => e = .returned (.int .i64 (chkN (nums s) : Int)) ∧ w' = w := rcheck_g s _ rfl hs w
end Go.Proofs.YtclgkgaobjcifaaGreatDoor

namespace Go.Proofs.YtclgkgaobjcifaaGreatDoor
open Go.RowKit
set_option maxRecDepth 100000
theorem within_any (n lo hi : Int) (w : World) : Calls Tryz.prog 76 #[.int .i64 n, .int .i64 lo, .int .i64 hi] w fun e w' => e = .returned (.bool (decide (lo ≤ n ∧ n ≤ hi))) ∧ w' = w := by
  by_cases h0 : lo ≤ n
  · have hd : decide (n ≥ lo) = true := by simpa using h0
    have he : decide (lo ≤ n ∧ n ≤ hi) = decide (n ≤ hi) := by simp [h0]
    rw [he]
    clear h0 he
    generalize hdz : decide (n ≤ hi) = dz at *
    go_enter Tryz.func76, Tryz.ntmps76
    go_wp2
    go_ret
    exact ⟨rfl, rfl⟩
  · have hd : decide (n ≥ lo) = false := by simpa using h0
    have he : decide (lo ≤ n ∧ n ≤ hi) = false := by simp [h0]
    rw [he]
    clear h0 he
    go_enter Tryz.func76, Tryz.ntmps76
    go_wp2
    go_ret
    exact ⟨rfl, rfl⟩
theorem rnum_of (n k : Nat) (hn : n ≤ 9223372036854775807) (hk : k ≤ 8) (w : World) : Calls Tryz.prog 47 #[.int .i64 (n : Int), .int .i64 (k : Int)] w fun e w' => e = .returned (.string (strOfNums (numB (n : Int) k))) ∧ Below w.heap.size w w' := by
  have HB := hide (rbytes_any n k hn hk w)
  clear hn hk
  generalize strOfNums (numB (n : Int) k) = S at *
  go_enter Tryz.func47, Tryz.ntmps47
  go_wp2_with (go_at_call 79; refine (unhide HB).mono ?_; rintro e x ⟨rfl, hx⟩; have HX := hide hx; clear hx)
  go_ret
  exact ⟨rfl, unhide HX⟩
set_option maxHeartbeats 2000000 in
theorem low4_any (c : Nat) (hc : c ≤ 4294967295) (w : World) : Calls Tryz.prog 49 #[.int .i64 (c : Int)] w fun e w' => e = .returned (.string (strOfNums (le4 c))) ∧ Below w.heap.size w w' := by
  have HB := hide (Below.refl w.heap.size w)
  have HL := hide (show ∀ j : Nat, j < 4 → (le4 c).take (j + 1) = (le4 c).take j ++ [((c / 256 ^ j % 256 : Nat) : Int)] by
    intro j hj
    have : j = 0 ∨ j = 1 ∨ j = 2 ∨ j = 3 := by omega
    rcases this with rfl | rfl | rfl | rfl
    · simp [le4]
    · simp [le4]
    · simp [le4]
    · simp [le4]
      omega)
  have HE := hide (show (le4 c).take 4 = le4 c from rfl)
  have HC := hide hc
  generalize le4 c = L at *
  go_enter Tryz.func49, Tryz.ntmps49
  go_wp2
  go_loopw [0, 3, 4] (fun u s i wr => ∃ j m : Nat, j ≤ 4 ∧ m = c / 256 ^ j ∧ u = .int .i64 (m : Int) ∧ i = .int .i64 (j : Int) ∧ s = .string (strOfNums (L.take j)) ∧ Below w.heap.size w wr) (fun _ _ i _ => 4 - (intOf i).toNat)
  case atStart => exact ⟨0, c, by omega, by simp, rfl, rfl, rfl, unhide HB⟩
  case round =>
    obtain ⟨j, m, hj, hm, rfl, rfl, rfl, hB⟩ := hrel
    obtain ⟨wo, rfl⟩ : ∃ wo, wo = wr := ⟨_, rfl⟩
    have HBE := hide hB
    clear hB HB
    have hmc : m ≤ 4294967295 := by rw [hm]; exact Nat.le_trans (Nat.div_le_self _ _) (unhide HC)
    by_cases hj4 : j < 4
    · have hj' : (j : Int) < 4 := by omega
      have hr : ((m : Int)).tmod 256 = ((m % 256 : Nat) : Int) := rfl
      obtain ⟨R, hR⟩ : ∃ R, m % 256 = R := ⟨_, rfl⟩
      obtain ⟨Q, hQ⟩ : ∃ Q, m / 256 = Q := ⟨_, rfl⟩
      have hq : ((m : Int)).tdiv 256 = (Q : Int) := by rw [← hQ]; rfl
      rw [hR] at hr
      have hR8 : R < 256 := by omega
      have hw8 : IntKind.u8.wrap (R : Int) = (R : Int) := by rw [IntKind.wrap_u8']; omega
      have hcv := run_one wo (R : Int) 5
      have hsz : (strOfNums (L.take j)).size ≤ 4 := by rw [strOfNums_size, List.length_take]; omega
      have hs1 : (strOfNums [(R : Int)]).size = 1 := rfl
      have HN := hide (show strOfNums (L.take j) ++ strOfNums [(R : Int)] = strOfNums (L.take (j + 1)) by
        rw [← strOfNums_app, unhide HL j hj4, ← hm, hR])
      have HQ := hide (show Q = c / 256 ^ (j + 1) by rw [← hQ, hm, Nat.div_div_eq_div_mul, Nat.pow_succ])
      have hQl : Q ≤ m := by rw [← hQ]; exact Nat.div_le_self _ _
      clear hR hQ hm
      generalize strOfNums (L.take j) = S at *
      generalize strOfNums [(R : Int)] = S1 at *
      have y1 : ¬ 9223372036854775807 < S.size + S1.size := by omega
      go_wp2
      go_roundw
      case rel => exact ⟨j + 1, Q, by omega, unhide HQ, by go_num, by go_num, by rw [unhide HN], (unhide HBE).alloc (by have := (unhide HBE).size; omega) _⟩
      all_goals (simp [intOf]; omega)
    · have hj' : ¬ (j : Int) < 4 := by omega
      obtain rfl : j = 4 := by omega
      rw [unhide HE]
      go_wp2
      go_ret
      exact ⟨rfl, unhide HBE⟩
end Go.Proofs.YtclgkgaobjcifaaGreatDoor

namespace Go.Proofs.YtclgkgaobjcifaaGreatDoor
open Go.RowKit
set_option maxRecDepth 100000
end Go.Proofs.YtclgkgaobjcifaaGreatDoor

namespace Go.Proofs.YtclgkgaobjcifaaGreatDoor
open Go.RowKit
set_option maxRecDepth 100000
set_option maxHeartbeats 1000000 in
theorem rwhole_any (k s : Int) (w : World) : Calls Tryz.prog 74 #[.int .i64 k, .int .i64 s] w fun e w' => e = .returned (.bool (fullP k s)) ∧ w' = w := by
  by_cases h0 : k = 8
  · have he : fullP k s = (s == 1) := by simp [fullP, h0]; rfl
    rw [he]
    subst h0
    clear he
    go_enter Tryz.func74, Tryz.ntmps74
    go_wp2
    go_ret
    exact ⟨rfl, rfl⟩
  · have he : fullP k s = (s == 0) := by simp [fullP, h0]; rfl
    have hd : (k == 8) = false := by simpa using h0
    rw [he]
    clear he h0
    go_enter Tryz.func74, Tryz.ntmps74
    go_wp2
    go_ret
    exact ⟨rfl, rfl⟩
set_option maxHeartbeats 2000000 in
theorem askedL_any (w : World) (p : Option Addr) (c n : Nat) (L : List Int) (hn : L.length = n) (hL : Lst w w.heap.size p L) (hz : n ≤ 9000000000000000000) : Calls Tryz.prog 78 #[.slice p n c] w fun e w' => e = .returned (.bool (plB L)) ∧ Below w.heap.size w w' := by
  have HL := hide (And.intro hn hL)
  clear hn hL
  go_enter Tryz.func78, Tryz.ntmps78
  go_wp2
  go_loopw [3] (fun i wr => ∃ k : Nat, k ≤ n ∧ i = .int .i64 (k : Int) ∧ (∀ j, j < k → 0 ≤ L.getD j 0 ∧ L.getD j 0 ≤ 255) ∧ Below w.heap.size w wr) (fun i _ => n - (intOf i).toNat)
  case atStart => exact ⟨0, by omega, rfl, fun j hj => absurd hj (by omega), Below.refl _ _⟩
  case round =>
    obtain ⟨k, hk, rfl, hall, hb⟩ := hrel
    obtain ⟨wo, rfl⟩ : ∃ wo, wo = wr := ⟨_, rfl⟩
    have XB := hide hb
    have HA := hide hall
    clear hb hall
    by_cases hkn : k < n
    · obtain ⟨g1, o1, rfl, q1, d1⟩ := (unhide HL).2 k (by have := (unhide HL).1; omega)
      have e1 := ((unhide XB).cell (p := ⟨g1, o1 + k, none⟩) q1).trans d1
      obtain ⟨z1, hz1⟩ : ∃ z, L.getD k 0 = z := ⟨_, rfl⟩
      rw [hz1] at e1
      have HZ := hide hz1
      clear q1 d1 hz1
      have j0 : 0 ≤ (k : Int) := by omega
      have j1 : (k : Int) < (n : Int) := by omega
      by_cases hzz : 0 ≤ z1 ∧ z1 ≤ 255
      · have i1 : ¬ z1 < 0 := by omega
        have i2 : ¬ 255 < z1 := by omega
        have HZZ := hide hzz
        clear hzz
        go_wp2_with fail
        go_roundw
        case rel =>
          refine ⟨k + 1, by omega, by go_num, fun j hj => ?_, unhide XB⟩
          by_cases e : j = k
          · rw [e, unhide HZ]; exact unhide HZZ
          · exact unhide HA j (by omega)
        case measure => simp [intOf]; omega
      · have HD := hide (show plB L = false from decide_eq_false (fun e => hzz (by rw [← unhide HZ]; exact e.2 k (by have := (unhide HL).1; omega))))
        have i3 : z1 < 0 ∨ 255 < z1 := by omega
        clear hzz
        rcases i3 with i3 | i3
        · go_wp2_with fail
          go_ret
          rw [unhide HD]
          exact ⟨rfl, unhide XB⟩
        · have i4 : ¬ z1 < 0 := by omega
          go_wp2_with fail
          go_ret
          rw [unhide HD]
          exact ⟨rfl, unhide XB⟩
    · have e1 : ¬ (k : Int) < (n : Int) := by omega
      obtain rfl : k = n := by omega
      by_cases h8 : k = 8
      · have HD := hide (show plB L = true from decide_eq_true ⟨by have := (unhide HL).1; omega, fun j hj => unhide HA j (by have := (unhide HL).1; omega)⟩)
        subst h8
        go_wp2_with fail
        go_ret
        rw [unhide HD]
        exact ⟨rfl, unhide XB⟩
      · have HD := hide (show plB L = false from decide_eq_false (fun e => h8 (by have := (unhide HL).1; omega)))
        have h9 : ((k : Int) == 8) = false := by simp; omega
        clear h8
        go_wp2_with fail
        go_ret
        rw [unhide HD]
        exact ⟨rfl, unhide XB⟩
end Go.Proofs.YtclgkgaobjcifaaGreatDoor

namespace Go.Proofs.YtclgkgaobjcifaaGreatDoor
open Go.RowKit
set_option maxRecDepth 100000
end Go.Proofs.YtclgkgaobjcifaaGreatDoor

namespace Go.Proofs.YtclgkgaobjcifaaGreatDoor
open Go.RowKit
set_option maxRecDepth 100000
end Go.Proofs.YtclgkgaobjcifaaGreatDoor

namespace Go.Proofs.YtclgkgaobjcifaaGreatDoor
open Go.RowKit
set_option maxRecDepth 100000
set_option maxHeartbeats 1000000 in
theorem rzeros_m (n : Nat) (hn : n ≤ 1000) (w : World) :
    Calls Tryz.prog 80 #[.int .i64 (n : Int)] w fun e w' => e = .returned (.string (strOfNums (List.replicate n 0))) ∧ Below w.heap.size w w' := by
  obtain ⟨zc, hzc⟩ : ∃ zc : Array Value, zc = ((List.replicate n (0 : Int)).map (Value.int .u8)).toArray := ⟨_, rfl⟩
  have hmk : ∀ W : World, (Instr.makeSlice 61 (.int .i64 (n : Int)) (.int .i64 (n : Int))).run Tryz.prog W = .ok (.slice (some ⟨W.heap.size, 0, none⟩) n n) (W.alloc (.cells zc 5)) := by
    intro W
    rw [hzc]
    exact run_make_u8 n n (Nat.le_refl _) (by omega) W
  have hA := arr_new w .u8 (List.replicate n 0) 5 zc hzc
  have hcv := run_convert_bytes_arg (P := Tryz.prog) (w.alloc (Obj.cells zc 5)) 61 5 Tryz.underlying61 Tryz.underlying5 w.heap.size 0 n n (List.replicate n 0) (by simp) (fun i hi => hA.get i (by simpa using hi)) 9 Tryz.underlying9
  obtain ⟨Z, hZ⟩ : ∃ Z, strOfNums (List.replicate n 0) = Z := ⟨_, rfl⟩
  rw [hZ] at hcv ⊢
  clear hA hzc hZ
  go_enter Tryz.func80, Tryz.ntmps80
  go_wp2
  go_ret
  exact ⟨rfl, (Below.refl _ w).alloc (Nat.le_refl _) _⟩
theorem outN_tk1 (L : List Int) (k : Nat) (h : k < L.length) : outN 1 (L.take (k + 1)) = outN 1 (L.take k) ++ numB (L.getD k 0) 1 := by
  induction L generalizing k with
  | nil => simp at h
  | cons x L ih =>
    cases k with
    | zero => rw [List.take_succ_cons, List.take_zero, List.take_zero]; exact (List.append_nil _).trans (List.nil_append _).symm
    | succ k =>
      rw [List.take_succ_cons, List.take_succ_cons, show outN 1 (x :: L.take (k + 1)) = numB x 1 ++ outN 1 (L.take (k + 1)) from rfl, ih k (by simpa using h), show outN 1 (x :: L.take k) = numB x 1 ++ outN 1 (L.take k) from rfl, List.append_assoc]
      rfl
set_option maxHeartbeats 4000000 in
theorem numbers_any (w : World) (p : Option Addr) (c n : Nat) (L : List Int) (hn : L.length = n) (hL : Lst w w.heap.size p L) (h8 : n ≤ 8) (hf : ∀ k, k < n → 0 ≤ L.getD k 0 ∧ L.getD k 0 ≤ 255) : Calls Tryz.prog 81 #[.slice p n c, .int .i64 8] w fun e w' => e = .returned (.string (strOfNums (outN 1 L ++ List.replicate (8 - n) 0))) ∧ Below w.heap.size w w' := by
  have HL := hide (And.intro hn (And.intro hL hf))
  have HO := hide (fun k (h : k < n) => outN_tk1 L k (by omega))
  have HE := hide (show L.take n = L from List.take_of_length_le (by omega))
  have HLE := hide (fun k => show (outN 1 (L.take k)).length ≤ 1 * (L.take k).length from by rw [outN_len]; omega)
  obtain ⟨R, hR⟩ : ∃ R, strOfNums (outN 1 L ++ List.replicate (8 - n) 0) = R := ⟨_, rfl⟩
  rw [hR]
  have HRR := hide hR
  clear hn hL hf hR
  go_enter Tryz.func81, Tryz.ntmps81
  go_wp2
  go_loopw [5, 6] (fun s i wr => ∃ k : Nat, k ≤ n ∧ i = .int .i64 (k : Int) ∧ s = .string (strOfNums (outN 1 (L.take k))) ∧ Below w.heap.size w wr) (fun _ i _ => n - (intOf i).toNat)
  case atStart => exact ⟨0, by omega, rfl, by rw [List.take_zero]; rfl, Below.refl _ _⟩
  case round =>
    obtain ⟨k, hk, rfl, rfl, hb⟩ := hrel
    obtain ⟨wo, rfl⟩ : ∃ wo, wo = wr := ⟨_, rfl⟩
    have XB := hide hb
    clear hb
    have hsz : (strOfNums (outN 1 (L.take k))).size ≤ 8 := by
      have h1 := unhide HLE k
      rw [strOfNums_size]
      rw [List.length_take] at h1
      omega
    by_cases hkn : k < n
    · obtain ⟨g1, o1, rfl, q1, d1⟩ := (unhide HL).2.1 k (by have := (unhide HL).1; omega)
      have e1 := ((unhide XB).cell (p := ⟨g1, o1 + k, none⟩) q1).trans d1
      have hz1 := (unhide HL).2.2 k hkn
      have ho := unhide HO k hkn
      obtain ⟨z, hz⟩ : ∃ z : Nat, L.getD k 0 = (z : Int) := ⟨(L.getD k 0).toNat, by omega⟩
      rw [hz] at e1 ho hz1
      have HN := hide (fun W => rnum_of z 1 (by omega) (by decide) W)
      have j0 : 0 ≤ (k : Int) := by omega
      have j1 : (k : Int) < (n : Int) := by omega
      have HS := hide (show strOfNums (outN 1 (L.take k)) ++ strOfNums (numB (z : Int) 1) = strOfNums (outN 1 (L.take (k + 1))) by rw [ho, strOfNums_app])
      have hs1 : (strOfNums (numB (z : Int) 1)).size = 1 := by rw [strOfNums_size, numB_len]
      clear q1 d1 hz ho hz1
      generalize strOfNums (outN 1 (L.take k)) = S at *
      generalize strOfNums (numB (z : Int) 1) = S1 at *
      have y1 : ¬ 9223372036854775807 < S.size + S1.size := by omega
      clear hsz hs1
      go_wp2_with fail
      refine (unhide HN _).mono ?_
      rintro e y ⟨rfl, hy⟩
      have XY := hide (show Below w.heap.size w y from (unhide XB).trans (hy.mono (unhide XB).size))
      clear hy e1
      go_wp2
      go_roundw
      case rel => exact ⟨k + 1, by omega, by go_num, by rw [unhide HS], unhide XY⟩
      case measure => simp [intOf]; omega
    · have e1 : ¬ (k : Int) < (n : Int) := by omega
      obtain rfl : k = n := by omega
      have HZ := hide (fun W => rzeros_m (8 - k) (by omega) W)
      have w1 : IntKind.i64.wrap ((8 : Int) - (k : Int)) = ((8 - k : Nat) : Int) := by rw [wrapI_eq _ (by omega) (by omega)]; omega
      rw [unhide HE] at hsz ⊢
      have HR := hide (show strOfNums (outN 1 L) ++ strOfNums (List.replicate (8 - k) 0) = R from (strOfNums_app _ _).symm.trans (unhide HRR))
      have hs1 : (strOfNums (List.replicate (8 - k) 0)).size = 8 - k := by rw [strOfNums_size, List.length_replicate]
      clear HRR
      generalize strOfNums (outN 1 L) = S at *
      generalize strOfNums (List.replicate (8 - k) 0) = S1 at *
      have y1 : ¬ 9223372036854775807 < S.size + S1.size := by omega
      generalize (8 - k : Nat) = m at *
      clear hsz hs1
      go_wp2_with fail
      refine (unhide HZ _).mono ?_
      rintro e y ⟨rfl, hy⟩
      have XY := hide (show Below w.heap.size w y from (unhide XB).trans (hy.mono (unhide XB).size))
      clear hy
      go_wp2
      go_ret
      exact ⟨by rw [← unhide HR]; rfl, unhide XY⟩
end Go.Proofs.YtclgkgaobjcifaaGreatDoor
