import Derived.Test.YtclgkgaobjcifaaGreatDoorMx19
import Derived.Test.YtclgkgaobjcifaaGreatDoorMx17
import Derived.Test.YtclgkgaobjcifaaGreatDoorMx15
import Derived.Test.YtclgkgaobjcifaaGreatDoorMx00
namespace Go.Proofs.YtclgkgaobjcifaaGreatDoor
open Go.RowKit
set_option maxRecDepth 100000
theorem out1_byte : ∀ (L : List Int), (∀ k, k < L.length → 0 ≤ L.getD k 0 ∧ L.getD k 0 ≤ 255) → outN 1 L = L
  | [], _ => rfl
  | z :: L, h => by
    have h0 := h 0 (by simp)
    have e : outN 1 (z :: L) = numB z 1 ++ outN 1 L := rfl
    rw [e, numB1 z h0.1 h0.2, out1_byte L (fun k hk => by have := h (k + 1) (by simp; omega); simpa using this)]
    rfl
/-- a field's part of a reply, put into what is said -/
def setP (f : Fld) (a : PR) (r : Rep) (V Pl : List Int) : PR :=
  if f.ty = 122 then { a with qu := r.qu }
  else if f.ty = 123 then { a with ch := r.ch }
  else if f.ty = 136 then { a with V := V }
  else if f.ty = 126 then { a with no := r.no }
  else if f.ty = 135 then { a with Pl := Pl }
  else if f.ty = 131 then { a with wr := r.wr }
  else { a with da := r.da }
theorem vo_lay (V : List Int) (s : ByteArray) (i : Nat) (hk : voB V = true) (h : ((nums s).drop i).take 9 = voL V) : vtB s i = true ∧ tkB s (i + 1) (vtN s i) = V := by
  rw [voB, Bool.and_eq_true] at hk
  have h8 : V.length ≤ 8 := of_decide_eq_true hk.1
  have hA := of_decide_eq_true (show decide (∀ k, k < V.length → (1 ≤ V.getD k 0 ∧ V.getD k 0 ≤ 99) ∧ (0 < k → V.getD (k - 1) 0 < V.getD k 0)) = true from hk.2)
  have e : voL V = (V.length : Int) :: (V ++ List.replicate (8 - V.length) 0) := by
    rw [voL, numB1 _ (by omega) (by omega), out1_byte V (fun k hk => by have := (hA k hk).1; omega)]
    rfl
  rw [e] at h
  have hd : (nums s).drop i = (nums s).getD i 0 :: (nums s).drop (i + 1) := by
    have hl : i < (nums s).length := by
      have := congrArg List.length h
      rw [List.length_take, List.length_drop, List.length_cons] at this
      omega
    rw [List.getD_eq_getElem?_getD, List.getElem?_eq_getElem hl, Option.getD_some]
    exact (List.getElem_cons_drop hl).symm
  rw [hd, List.take_succ_cons] at h
  injection h with h1 h2
  have hN : vtN s i = V.length := by rw [vtN, h1]; rfl
  have hT : tkB s (i + 1) V.length = V := by
    have := congrArg (List.take V.length) h2
    rw [List.take_take, Nat.min_eq_left h8, List.take_left' rfl] at this
    exact this
  have hZ : s.extract (i + 1 + V.length) (i + 9) = strOfNums (List.replicate (8 - V.length) 0) := nums_inj (by
    rw [show i + 9 = i + 1 + V.length + (8 - V.length) by omega, nums_cut, rep0_nums]
    have := congrArg (List.drop V.length) h2
    rw [List.drop_take, List.drop_left' rfl, List.drop_drop] at this
    exact this)
  refine ⟨?_, by rw [hN]; exact hT⟩
  rw [vtB, hN, hT, hZ, decide_eq_true h8, hk.2, Bool.and_true, Bool.true_and]
  exact beq_self_eq_true _
theorem upP_lay {f : Fld} (hf : IsP f) (r : Rep) (V Pl : List Int) (s : ByteArray) (i : Nat) (a : PR) (hk : okG f (exr f r Prt.nil).2 V Pl = true) (h : ((nums s).drop i).take f.b = byG f (exr f r Prt.nil).2 V Pl) : okP f s i = true ∧ upP f a s i = setP f a r V Pl := by
  rcases hf with rfl | rfl | rfl | rfl | rfl | rfl | rfl
  · have hk' : (0 : Int) ≤ r.qu ∧ r.qu ≤ 65535 := of_decide_eq_true hk
    have e : beN (tkB s i 2) = r.qu := by rw [show tkB s i 2 = numB r.qu 2 from h, be2 _ hk'.1 hk'.2]
    exact ⟨(congrArg (fun n : Int => decide (((0 : Nat) : Int) ≤ n ∧ n ≤ ((65535 : Nat) : Int))) e).trans (decide_eq_true hk'), congrArg (fun n => ({ a with qu := n } : PR)) e⟩
  · have hk' : (0 : Int) ≤ r.ch ∧ r.ch ≤ 65535 := of_decide_eq_true hk
    have e : beN (tkB s i 2) = r.ch := by rw [show tkB s i 2 = numB r.ch 2 from h, be2 _ hk'.1 hk'.2]
    exact ⟨(congrArg (fun n : Int => decide (((0 : Nat) : Int) ≤ n ∧ n ≤ ((65535 : Nat) : Int))) e).trans (decide_eq_true hk'), congrArg (fun n => ({ a with ch := n } : PR)) e⟩
  · obtain ⟨e1, e2⟩ := vo_lay V s i hk h
    exact ⟨e1, congrArg (fun n => ({ a with V := n } : PR)) e2⟩
  · have hk' : (0 : Int) ≤ r.no ∧ r.no ≤ 4294967295 := of_decide_eq_true hk
    have e : beN (tkB s i 4) = r.no := by rw [show tkB s i 4 = numB r.no 4 from h, be4 _ hk'.1 hk'.2]
    exact ⟨(congrArg (fun n : Int => decide (((0 : Nat) : Int) ≤ n ∧ n ≤ ((4294967295 : Nat) : Int))) e).trans (decide_eq_true hk'), congrArg (fun n => ({ a with no := n } : PR)) e⟩
  · have hk' := of_decide_eq_true (show decide (Pl.length = 8 ∧ ∀ k, k < Pl.length → 0 ≤ Pl.getD k 0 ∧ Pl.getD k 0 ≤ 255) = true from hk)
    have e : tkB s i 8 = Pl := by rw [show tkB s i 8 = outN 1 Pl from h, out1_byte Pl hk'.2]
    exact ⟨rfl, congrArg (fun n => ({ a with Pl := n } : PR)) e⟩
  · exact ⟨rfl, congrArg (fun n => ({ a with wr := n } : PR)) (cut_txt s r.wr i 48 h)⟩
  · exact ⟨rfl, congrArg (fun n => ({ a with da := n } : PR)) (cut_txt s r.da i 256 h)⟩
def mrgP (V Pl : List Int) : List Fld → Rep → PR → PR
  | [], _, a => a
  | f :: fs, cur, a => mrgP V Pl fs (exr f cur Prt.nil).1 (setP f a cur V Pl)
def rstP : List Fld → Rep → Rep
  | [], cur => cur
  | f :: fs, cur => rstP fs (exr f cur Prt.nil).1
theorem takeP_lay (V Pl : List Int) : ∀ (fs : List Fld), (∀ f ∈ fs, IsP f) → ∀ (cur : Rep) (a : PR) (x : Rep × List Int) (s : ByteArray) (i : Nat), layG V Pl fs cur = some x → ((nums s).drop i).take (szF fs) = x.2 → takeP fs a s i = some (mrgP V Pl fs cur a) ∧ x.1 = rstP fs cur
  | [], _, cur, a, x, s, i, h, _ => by
    simp only [layG, Option.some.injEq] at h
    subst h
    exact ⟨rfl, rfl⟩
  | f :: fs, hF, cur, a, x, s, i, h, hb => by
    rw [layG] at h
    by_cases hok : okG f (exr f cur Prt.nil).2 V Pl = true
    · rw [if_pos hok] at h
      cases hq : layG V Pl fs (exr f cur Prt.nil).1 with
      | none => rw [hq] at h; simp at h
      | some y =>
        rw [hq] at h
        simp only [Option.map_some, Option.some.injEq] at h
        subst h
        have hf := hF f (by simp)
        have hl := byG_len hf hok
        have hb' : ((nums s).drop i).take (f.b + szF fs) = byG f (exr f cur Prt.nil).2 V Pl ++ y.2 := hb
        have hA : ((nums s).drop i).take f.b = byG f (exr f cur Prt.nil).2 V Pl := by
          have := congrArg (List.take f.b) hb'
          rw [List.take_take, Nat.min_eq_left (by omega), List.take_left' hl] at this
          exact this
        have hB : ((nums s).drop (i + f.b)).take (szF fs) = y.2 := by
          have := congrArg (List.drop f.b) hb'
          rw [List.drop_take, List.drop_left' hl, List.drop_drop] at this
          rw [← this]
          congr 1
          omega
        obtain ⟨e1, e2⟩ := upP_lay hf cur V Pl s i a hok hA
        obtain ⟨t1, t2⟩ := takeP_lay V Pl fs (fun g hg => hF g (by simp [hg])) (exr f cur Prt.nil).1 (setP f a cur V Pl) y s (i + f.b) hq hB
        refine ⟨?_, t2⟩
        rw [takeP, if_pos e1, e2]
        exact t1
    · rw [if_neg hok] at h; simp at h
def prOf (r : Rep) (V Pl : List Int) : PR := ⟨r.qu, r.ch, r.no, r.wr, r.da, V, Pl⟩
theorem len0 {V : List Int} {n : Nat} (h : V.length = n) (h0 : n = 0) : V = [] := List.eq_nil_of_length_eq_zero (by omega)
theorem mrgP_self (k : Int) (r : Rep) (V Pl : List Int) (hv : V.length = r.vm) (hp : Pl.length = r.pm) (h : bareP (rstP (rpF k) r) = true) : mrgP V Pl (rpF k) r PR.bare = prOf r V Pl := by
  have hf : rpF k = [fQuo, fCha, fVos] ∨ rpF k = [fVos] ∨ rpF k = [fQuo, fCha] ∨ rpF k = [fNon, fPla] ∨ rpF k = [fWra, fDat] ∨ rpF k = [] := by
    unfold rpF
    (repeat' split) <;> simp
  generalize rpF k = fs at *
  obtain ⟨st, qu, ch, vp, vm, vc, no, pp, pm, pc, wr, da⟩ := r
  have h' := of_decide_eq_true h
  simp only at hv hp
  rcases hf with rfl | rfl | rfl | rfl | rfl | rfl
  all_goals simp only [rstP, exr, fQuo, fCha, fVos, fNon, fPla, fWra, fDat, Prt.nil, Prt.num, Prt.txt] at h'
  all_goals (try simp at h')
  all_goals simp only [mrgP, setP, exr, fQuo, fCha, fVos, fNon, fPla, fWra, fDat, Prt.nil, prOf, PR.bare]
  all_goals (try simp)
  all_goals (clear h; simp_all)
/-- what a right frame of a reply says -/
theorem rep_good (k : Nat) (hk : k ≤ 12) (r : Rep) (V Pl : List Int) (hst : 0 ≤ r.st ∧ r.st ≤ 13) (hv : V.length = r.vm) (hp : Pl.length = r.pm) (hB : lyB (k : Int) r V Pl = true) (Y : ByteArray) (hY : nums Y = eyL (k : Int) r V Pl ++ le4 (chkN ((k : Int) :: eyL (k : Int) r V Pl))) :
    frB Y (rpF (k : Int)) (strOfNums [(k : Int)]) = true ∧ (nums Y).getD 0 0 = r.st ∧ (fullP (k : Int) r.st = true → takeP (rpF (k : Int)) PR.bare Y 1 = some (prOf r V Pl)) ∧ (fullP (k : Int) r.st = false → prOf r V Pl = PR.bare ∧ ((Y.extract 1 (1 + szF (rpF (k : Int)))).toList == (strOfNums (List.replicate (szF (rpF (k : Int))) (0 : Int))).toList) = true) := by
  have hl := lyL_full (k : Int) r V Pl hB
  have e : eyL (k : Int) r V Pl = r.st :: lyL (k : Int) r V Pl := by rw [eyL, numB1 _ (by omega) (by omega)]; rfl
  have hz : Y.size = 5 + szF (rpF (k : Int)) := by rw [← nums_len, hY, List.length_append, le4_len, (eyL_form k r V Pl hB).1]; omega
  have hc : ((nums Y).drop 1).take (szF (rpF (k : Int))) = lyL (k : Int) r V Pl := by
    rw [hY, e, List.cons_append, List.drop_succ_cons, List.drop_zero, List.take_left' hl]
  refine ⟨?_, by rw [hY, e]; rfl, fun hf => ?_, fun hf => ?_⟩
  · rw [frB, if_pos hz]
    exact ckB_true _ _ (eyL (k : Int) r V Pl) (by rw [kB_nums k hk]; exact hY)
  · rw [lyB, if_pos hf] at hB
    rw [lyL, if_pos hf] at hc
    unfold lgB at hB
    unfold lgL at hc
    cases eL : layG V Pl (rpF (k : Int)) r with
    | none => rw [eL] at hB; exact absurd (show false = true from hB) (by decide)
    | some x =>
      rw [eL] at hB hc
      obtain ⟨t1, t2⟩ := takeP_lay V Pl (rpF (k : Int)) (rpF_all (k : Int)) r PR.bare x Y 1 eL hc
      rw [t1, mrgP_self (k : Int) r V Pl hv hp (by rw [← t2]; exact hB)]
  · have hn : ¬ fullP (k : Int) r.st = true := by rw [hf]; decide
    rw [lyB, if_neg hn] at hB
    rw [lyL, if_neg hn] at hc
    have h' := of_decide_eq_true hB
    refine ⟨?_, ?_⟩
    · obtain ⟨a1, a2, a3, a4, a5, a6, a7⟩ := h'
      rw [prOf, a1, a2, a4, a6, a7, len0 hv a3, len0 hp a5]
      rfl
    · rw [show Y.extract 1 (1 + szF (rpF (k : Int))) = strOfNums (List.replicate (szF (rpF (k : Int))) (0 : Int)) from nums_inj (by rw [nums_cut, hc, rep0_nums])]
      exact beq_self_eq_true _
end Go.Proofs.YtclgkgaobjcifaaGreatDoor

namespace Go.Proofs.YtclgkgaobjcifaaGreatDoor
open Go.RowKit
set_option maxRecDepth 100000
theorem numB_sn (n x : Int) (k : Nat) (h0 : 0 ≤ x) (h1 : x < 256) : numB (256 * n + x) (k + 1) = numB n k ++ [x] := by
  unfold numB
  rw [List.range_succ, List.map_append]
  congr 1
  · refine List.map_congr_left fun i hi => ?_
    have hik : i < k := List.mem_range.1 hi
    rw [show 8 * (k + 1 - 1 - i) = 8 + 8 * (k - 1 - i) by omega, Int.pow_add, ← Int.ediv_ediv_of_nonneg (by decide)]
    have : (256 * n + x) / 2 ^ 8 = n := by
      have e : (2 : Int) ^ 8 = 256 := by decide
      rw [e]
      omega
    rw [this]
  · simp
    omega
theorem numB_bk (l : List Int) (hb : Bytes l) : ∀ k, k ≤ l.length → numB (beN (l.take k)) k = l.take k
  | 0, _ => rfl
  | k + 1, h => by
    rw [be_take l k (by omega), numB_sn _ _ _ (hb k).1 (hb k).2, numB_bk l hb k (by omega), List.take_add_one, List.getD_eq_getElem?_getD, List.getElem?_eq_getElem (by omega)]
    rfl
theorem Bytes.drop {l : List Int} (h : Bytes l) (n : Nat) : Bytes (l.drop n) := Bytes.of_mem (fun _ hx => h.mem (List.mem_of_mem_drop hx))
theorem Bytes.tak {l : List Int} (h : Bytes l) (n : Nat) : Bytes (l.take n) := Bytes.of_mem (fun _ hx => h.mem (List.mem_of_mem_take hx))
theorem tkB_bytes (s : ByteArray) (i n : Nat) : Bytes (tkB s i n) := ((nums_bytes s).drop i).tak n
theorem tkB_num (s : ByteArray) (i n : Nat) (h : i + n ≤ s.size) : numB (beN (tkB s i n)) n = tkB s i n := numB_bk _ ((nums_bytes s).drop i) n (by rw [List.length_drop, nums_len]; omega)
theorem out1_tk (s : ByteArray) (i n : Nat) : outN 1 (tkB s i n) = tkB s i n := out1_byte _ (fun k _ => by have := tkB_bytes s i n k; omega)
theorem tkB_add (s : ByteArray) (i a b : Nat) : tkB s i a ++ tkB s (i + a) b = tkB s i (a + b) := by
  unfold tkB
  rw [List.take_add, List.drop_drop]
theorem vo_back (s : ByteArray) (i : Nat) (hi : i + 9 ≤ s.size) (h : vtB s i = true) : vtN s i ≤ 8 ∧ voB (tkB s (i + 1) (vtN s i)) = true ∧ voL (tkB s (i + 1) (vtN s i)) = tkB s i 9 := by
  unfold vtB at h
  rw [Bool.and_eq_true, Bool.and_eq_true] at h
  obtain ⟨h1, h2, h3⟩ := h
  have h8 := of_decide_eq_true h1
  have hl : (tkB s (i + 1) (vtN s i)).length = vtN s i := tkB_len (by omega)
  refine ⟨h8, by rw [voB, hl, h1, h3]; rfl, ?_⟩
  have hz : s.extract (i + 1 + vtN s i) (i + 9) = strOfNums (List.replicate (8 - vtN s i) 0) := Go.WideShapes.bytes_inj (by
    have := eq_of_beq h2
    rwa [ByteArray.toList_eq, ByteArray.toList_eq] at this)
  have hz2 : tkB s (i + 1 + vtN s i) (8 - vtN s i) = List.replicate (8 - vtN s i) 0 := by
    have := congrArg nums hz
    rw [show i + 9 = i + 1 + vtN s i + (8 - vtN s i) by omega, nums_cut, rep0_nums] at this
    exact this
  have hb0 := nums_bytes s i
  have hn : ((vtN s i : Nat) : Int) = (nums s).getD i 0 := by
    unfold vtN
    omega
  have h0 : tkB s i 1 = [(nums s).getD i 0] := by
    rw [tkB_succ (by omega)]
    simp [tkB]
  rw [voL, hl, out1_tk, numB1 _ (by omega) (by omega), hn, ← hz2, ← h0, List.append_assoc, tkB_add, show i + 1 = i + 1 from rfl, tkB_add]
  congr 1
  omega
/-- what a reply says at a field is what is read here -/
def SaysF (f : Fld) (r : Rep) (V Pl : List Int) (s : ByteArray) (i : Nat) : Prop :=
  if f.ty = 122 then r.qu = beN (tkB s i f.b)
  else if f.ty = 123 then r.ch = beN (tkB s i f.b)
  else if f.ty = 136 then V = tkB s (i + 1) (vtN s i)
  else if f.ty = 126 then r.no = beN (tkB s i f.b)
  else if f.ty = 135 then Pl = tkB s i 8
  else if f.ty = 131 then r.wr = s.extract i (i + f.b)
  else r.da = s.extract i (i + f.b)
theorem says_back {f : Fld} (hf : IsP f) (r : Rep) (V Pl : List Int) (s : ByteArray) (i : Nat) (hi : i + f.b ≤ s.size) (hk : okP f s i = true) (h : SaysF f r V Pl s i) : okG f (exr f r Prt.nil).2 V Pl = true ∧ byG f (exr f r Prt.nil).2 V Pl = tkB s i f.b := by
  rcases hf with rfl | rfl | rfl | rfl | rfl | rfl | rfl
  · have h' : r.qu = beN (tkB s i 2) := h
    have hk' := of_decide_eq_true (show decide (((0 : Nat) : Int) ≤ beN (tkB s i 2) ∧ beN (tkB s i 2) ≤ ((65535 : Nat) : Int)) = true from hk)
    exact ⟨(show decide (((0 : Nat) : Int) ≤ r.qu ∧ r.qu ≤ ((65535 : Nat) : Int)) = true from decide_eq_true (by rw [h']; exact hk')), (show numB r.qu 2 = tkB s i 2 from by rw [h']; exact tkB_num s i 2 hi)⟩
  · have h' : r.ch = beN (tkB s i 2) := h
    have hk' := of_decide_eq_true (show decide (((0 : Nat) : Int) ≤ beN (tkB s i 2) ∧ beN (tkB s i 2) ≤ ((65535 : Nat) : Int)) = true from hk)
    exact ⟨(show decide (((0 : Nat) : Int) ≤ r.ch ∧ r.ch ≤ ((65535 : Nat) : Int)) = true from decide_eq_true (by rw [h']; exact hk')), (show numB r.ch 2 = tkB s i 2 from by rw [h']; exact tkB_num s i 2 hi)⟩
  · have h' : V = tkB s (i + 1) (vtN s i) := h
    obtain ⟨_, e2, e3⟩ := vo_back s i hi hk
    exact ⟨(show voB V = true from by rw [h']; exact e2), (show voL V = tkB s i 9 from by rw [h']; exact e3)⟩
  · have h' : r.no = beN (tkB s i 4) := h
    have hk' := of_decide_eq_true (show decide (((0 : Nat) : Int) ≤ beN (tkB s i 4) ∧ beN (tkB s i 4) ≤ ((4294967295 : Nat) : Int)) = true from hk)
    exact ⟨(show decide (((0 : Nat) : Int) ≤ r.no ∧ r.no ≤ ((4294967295 : Nat) : Int)) = true from decide_eq_true (by rw [h']; exact hk')), (show numB r.no 4 = tkB s i 4 from by rw [h']; exact tkB_num s i 4 hi)⟩
  · have h' : Pl = tkB s i 8 := h
    exact ⟨(show plB Pl = true from by rw [h']; exact decide_eq_true ⟨tkB_len hi, fun k _ => by have := tkB_bytes s i 8 k; omega⟩), (show outN 1 Pl = tkB s i 8 from by rw [h']; exact out1_tk s i 8)⟩
  · have h' : r.wr = s.extract i (i + 48) := h
    have hi' : i + 48 ≤ s.size := hi
    exact ⟨(show decide (r.wr.size = 48) = true from decide_eq_true (by rw [h', ByteArray.size_extract]; omega)), (show nums r.wr = tkB s i 48 from by rw [h']; exact nums_cut s i 48)⟩
  · have h' : r.da = s.extract i (i + 256) := h
    have hi' : i + 256 ≤ s.size := hi
    exact ⟨(show decide (r.da.size = 256) = true from decide_eq_true (by rw [h', ByteArray.size_extract]; omega)), (show nums r.da = tkB s i 256 from by rw [h']; exact nums_cut s i 256)⟩
def SaysL (V Pl : List Int) (s : ByteArray) : List Fld → Rep → Nat → Prop
  | [], _, _ => True
  | f :: fs, r, i => okP f s i = true ∧ SaysF f r V Pl s i ∧ SaysL V Pl s fs (exr f r Prt.nil).1 (i + f.b)
theorem layG_back (V Pl : List Int) (s : ByteArray) : ∀ (fs : List Fld), (∀ f ∈ fs, IsP f) → ∀ (r : Rep) (i : Nat), i + szF fs ≤ s.size → SaysL V Pl s fs r i → layG V Pl fs r = some (rstP fs r, tkB s i (szF fs))
  | [], _, r, i, _, _ => rfl
  | f :: fs, hF, r, i, hi, h => by
    obtain ⟨h1, h2, h3⟩ := h
    have hi' : i + (f.b + szF fs) ≤ s.size := hi
    obtain ⟨e1, e2⟩ := says_back (hF f (by simp)) r V Pl s i (by omega) h1 h2
    rw [layG, if_pos e1, layG_back V Pl s fs (fun g hg => hF g (by simp [hg])) _ (i + f.b) (by omega) h3, e2, Option.map_some, tkB_add]
    rfl
/-- what the document reads of a frame -/
def toldP (kd st : Int) (s : ByteArray) : PR :=
  if fullP kd st = true then
    if kd = 3 then ⟨beN (tkB s 1 2), beN (tkB s 3 2), 0, ⟨#[]⟩, ⟨#[]⟩, tkB s 6 (min (vtN s 5) 8), []⟩
    else if kd = 6 then ⟨0, 0, 0, ⟨#[]⟩, ⟨#[]⟩, tkB s 2 (min (vtN s 1) 8), []⟩
    else if kd = 7 then ⟨beN (tkB s 1 2), beN (tkB s 3 2), 0, ⟨#[]⟩, ⟨#[]⟩, [], []⟩
    else if kd = 8 then ⟨0, 0, beN (tkB s 1 4), ⟨#[]⟩, ⟨#[]⟩, [], tkB s 5 8⟩
    else if kd = 11 then ⟨0, 0, 0, s.extract 1 49, s.extract 49 305, [], []⟩
    else PR.bare
  else PR.bare
/-- a reply that says this -/
structure Says (st : Int) (r : Rep) (a : PR) : Prop where
  st : r.st = st
  qu : r.qu = a.qu
  ch : r.ch = a.ch
  no : r.no = a.no
  wr : r.wr = a.wr
  da : r.da = a.da
  vm : r.vm = a.V.length
  pm : r.pm = a.Pl.length
theorem takeP_inv {f : Fld} {fs : List Fld} {a a' : PR} {s : ByteArray} {i : Nat} (h : takeP (f :: fs) a s i = some a') : okP f s i = true ∧ takeP fs (upP f a s i) s (i + f.b) = some a' := by
  rw [takeP] at h
  by_cases e : okP f s i = true
  · rw [if_pos e] at h; exact ⟨e, h⟩
  · rw [if_neg e] at h; exact absurd h (by simp)
theorem lg_of {kd : Int} {r : Rep} {V Pl : List Int} {s : ByteArray} (h : SaysL V Pl s (rpF kd) r 1) (hz : 1 + szF (rpF kd) ≤ s.size) (hb : bareP (rstP (rpF kd) r) = true) : lgB kd r V Pl = true ∧ lgL kd r V Pl = tkB s 1 (szF (rpF kd)) := by
  have e := layG_back V Pl s (rpF kd) (rpF_all kd) r 1 hz h
  exact ⟨by rw [lgB, e]; exact hb, by rw [lgL, e]⟩
/-- a frame that the program takes is what the document reads, and what is laid down of that -/
theorem told_back (k : Nat) (hk : k ≤ 12) (s : ByteArray) (hz : s.size = 5 + szF (rpF (k : Int))) (st : Int) (a : PR) (h : drO (k : Int) st s = some a) : toldP (k : Int) st s = a ∧ ∀ r, Says st r a → lyB (k : Int) r a.V a.Pl = true ∧ lyL (k : Int) r a.V a.Pl = tkB s 1 (szF (rpF (k : Int))) := by
  unfold drO at h
  by_cases hf : fullP (k : Int) st = true
  · rw [if_pos hf] at h
    rw [toldP, if_pos hf]
    rcases rpF_kinds hk with rfl | rfl | rfl | rfl | rfl | ⟨e, n3, n6, n7, n8, n11⟩
    · obtain ⟨o1, h⟩ := takeP_inv (show takeP [fQuo, fCha, fVos] PR.bare s 1 = some a from h)
      obtain ⟨o2, h⟩ := takeP_inv h
      obtain ⟨o3, h⟩ := takeP_inv h
      have ha : (⟨beN (tkB s 1 2), beN (tkB s 3 2), 0, ⟨#[]⟩, ⟨#[]⟩, tkB s 6 (vtN s 5), []⟩ : PR) = a := Option.some.inj h
      have hz' : s.size = 18 := hz
      have h8 := (vo_back s 5 (by omega) o3).1
      subst ha
      refine ⟨by rw [if_pos (show ((3 : Nat) : Int) = 3 from rfl), Nat.min_eq_left h8], fun r hr => ?_⟩
      rw [lyB, lyL, if_pos (by rw [hr.st]; exact hf), if_pos (by rw [hr.st]; exact hf)]
      refine lg_of (kd := 3) (s := s) ⟨o1, hr.qu, o2, hr.ch, o3, rfl, trivial⟩ (by rw [hz']; decide) (decide_eq_true ⟨rfl, rfl, rfl, hr.no, ?_, hr.wr, hr.da⟩)
      exact hr.pm
    · obtain ⟨o1, h⟩ := takeP_inv (show takeP [fVos] PR.bare s 1 = some a from h)
      have ha : (⟨0, 0, 0, ⟨#[]⟩, ⟨#[]⟩, tkB s 2 (vtN s 1), []⟩ : PR) = a := Option.some.inj h
      have hz' : s.size = 14 := hz
      have h8 := (vo_back s 1 (by omega) o1).1
      subst ha
      refine ⟨by rw [if_neg (show ¬ ((6 : Nat) : Int) = 3 by decide), if_pos (show ((6 : Nat) : Int) = 6 from rfl), Nat.min_eq_left h8], fun r hr => ?_⟩
      rw [lyB, lyL, if_pos (by rw [hr.st]; exact hf), if_pos (by rw [hr.st]; exact hf)]
      exact lg_of (kd := 6) (s := s) ⟨o1, rfl, trivial⟩ (by rw [hz']; decide) (decide_eq_true ⟨hr.qu, hr.ch, rfl, hr.no, hr.pm, hr.wr, hr.da⟩)
    · obtain ⟨o1, h⟩ := takeP_inv (show takeP [fQuo, fCha] PR.bare s 1 = some a from h)
      obtain ⟨o2, h⟩ := takeP_inv h
      have ha : (⟨beN (tkB s 1 2), beN (tkB s 3 2), 0, ⟨#[]⟩, ⟨#[]⟩, [], []⟩ : PR) = a := Option.some.inj h
      have hz' : s.size = 9 := hz
      subst ha
      refine ⟨by rw [if_neg (show ¬ ((7 : Nat) : Int) = 3 by decide), if_neg (show ¬ ((7 : Nat) : Int) = 6 by decide), if_pos (show ((7 : Nat) : Int) = 7 from rfl)], fun r hr => ?_⟩
      rw [lyB, lyL, if_pos (by rw [hr.st]; exact hf), if_pos (by rw [hr.st]; exact hf)]
      exact lg_of (kd := 7) (s := s) ⟨o1, hr.qu, o2, hr.ch, trivial⟩ (by rw [hz']; decide) (decide_eq_true ⟨rfl, rfl, hr.vm, hr.no, hr.pm, hr.wr, hr.da⟩)
    · obtain ⟨o1, h⟩ := takeP_inv (show takeP [fNon, fPla] PR.bare s 1 = some a from h)
      obtain ⟨o2, h⟩ := takeP_inv h
      have ha : (⟨0, 0, beN (tkB s 1 4), ⟨#[]⟩, ⟨#[]⟩, [], tkB s 5 8⟩ : PR) = a := Option.some.inj h
      have hz' : s.size = 17 := hz
      subst ha
      refine ⟨by rw [if_neg (show ¬ ((8 : Nat) : Int) = 3 by decide), if_neg (show ¬ ((8 : Nat) : Int) = 6 by decide), if_neg (show ¬ ((8 : Nat) : Int) = 7 by decide), if_pos (show ((8 : Nat) : Int) = 8 from rfl)], fun r hr => ?_⟩
      rw [lyB, lyL, if_pos (by rw [hr.st]; exact hf), if_pos (by rw [hr.st]; exact hf)]
      exact lg_of (kd := 8) (s := s) ⟨o1, hr.no, o2, rfl, trivial⟩ (by rw [hz']; decide) (decide_eq_true ⟨hr.qu, hr.ch, hr.vm, rfl, rfl, hr.wr, hr.da⟩)
    · obtain ⟨o1, h⟩ := takeP_inv (show takeP [fWra, fDat] PR.bare s 1 = some a from h)
      obtain ⟨o2, h⟩ := takeP_inv h
      have ha : (⟨0, 0, 0, s.extract 1 49, s.extract 49 305, [], []⟩ : PR) = a := Option.some.inj h
      have hz' : s.size = 309 := hz
      subst ha
      refine ⟨by rw [if_neg (show ¬ ((11 : Nat) : Int) = 3 by decide), if_neg (show ¬ ((11 : Nat) : Int) = 6 by decide), if_neg (show ¬ ((11 : Nat) : Int) = 7 by decide), if_neg (show ¬ ((11 : Nat) : Int) = 8 by decide), if_pos (show ((11 : Nat) : Int) = 11 from rfl)], fun r hr => ?_⟩
      rw [lyB, lyL, if_pos (by rw [hr.st]; exact hf), if_pos (by rw [hr.st]; exact hf)]
      exact lg_of (kd := 11) (s := s) ⟨o1, hr.wr, o2, hr.da, trivial⟩ (by rw [hz']; decide) (decide_eq_true ⟨hr.qu, hr.ch, hr.vm, hr.no, hr.pm, rfl, rfl⟩)
    · rw [e] at h
      have ha : PR.bare = a := Option.some.inj h
      subst ha
      refine ⟨by rw [if_neg n3, if_neg n6, if_neg n7, if_neg n8, if_neg n11], fun r hr => ?_⟩
      rw [lyB, lyL, if_pos (by rw [hr.st]; exact hf), if_pos (by rw [hr.st]; exact hf)]
      refine lg_of (s := s) (by rw [e]; trivial) (by omega) ?_
      rw [e]
      exact decide_eq_true ⟨hr.qu, hr.ch, hr.vm, hr.no, hr.pm, hr.wr, hr.da⟩
  · rw [if_neg hf] at h
    rw [toldP, if_neg hf]
    by_cases hq : ((s.extract 1 (1 + szF (rpF (k : Int)))).toList == (strOfNums (List.replicate (szF (rpF (k : Int))) (0 : Int))).toList) = true
    · rw [if_pos hq] at h
      have ha : PR.bare = a := Option.some.inj h
      subst ha
      refine ⟨rfl, fun r hr => ?_⟩
      rw [lyB, lyL, if_neg (by rw [hr.st]; exact hf), if_neg (by rw [hr.st]; exact hf)]
      refine ⟨decide_eq_true ⟨hr.qu, hr.ch, hr.vm, hr.no, hr.pm, hr.wr, hr.da⟩, ?_⟩
      have e : s.extract 1 (1 + szF (rpF (k : Int))) = strOfNums (List.replicate (szF (rpF (k : Int))) (0 : Int)) := Go.WideShapes.bytes_inj (by
        have := eq_of_beq hq
        rwa [ByteArray.toList_eq, ByteArray.toList_eq] at this)
      have := congrArg nums e
      rw [nums_cut, rep0_nums] at this
      exact this.symm
    · rw [if_neg hq] at h
      exact absurd h (by simp)
/-- a reply's frame -/
def frmB (k : Nat) (r : Rep) (V Pl : List Int) : ByteArray := strOfNums (eyL (k : Int) r V Pl) ++ strOfNums (le4 (chkN ((k : Int) :: eyL (k : Int) r V Pl)))
theorem fr_back (k : Nat) (hk : k ≤ 12) (s : ByteArray) (n : Nat) (hn : s.size = 4 + n) (h : ckB (strOfNums [(k : Int)]) s = true) (E : List Int) (hE : E = (nums s).take n) : strOfNums E ++ strOfNums (le4 (chkN ((k : Int) :: E))) = s := by
  have e2 : s.extract (s.size - 4) s.size = strOfNums (le4 (chkN (nums (strOfNums [(k : Int)] ++ s.extract 0 (s.size - 4))))) := Go.WideShapes.bytes_inj (by
    unfold ckB at h
    have := eq_of_beq h
    rw [ByteArray.toList_eq, ByteArray.toList_eq] at this
    exact this.symm)
  have e1 : nums (strOfNums [(k : Int)] ++ s.extract 0 (s.size - 4)) = (k : Int) :: E := by
    rw [nums_app, kB_nums k hk, nums_extract, List.drop_zero, hE, hn, show 4 + n - 4 = n by omega]
    rfl
  rw [e1] at e2
  have hb : Bytes E := by rw [hE]; exact (nums_bytes s).tak n
  apply nums_inj
  rw [frm_nums E hb]
  have e3 := congrArg nums e2
  rw [nums_tail, nums_strOfNums _ (le4_bytes _ (chkN_lt _)), hn, show 4 + n - 4 = n by omega] at e3
  rw [← e3, hE, List.take_append_drop]
theorem dec_yes (k : Nat) (hk : k ≤ 12) (s : ByteArray) (h : frB s (rpF (k : Int)) (strOfNums [(k : Int)]) = true) (st : Int) (hst : (nums s).getD 0 0 = st) (a : PR) (ho : drO (k : Int) st s = some a) : toldP (k : Int) st s = a ∧ ∀ r, Says st r a → lyB (k : Int) r a.V a.Pl = true ∧ frmB k r a.V a.Pl = s := by
  unfold frB at h
  by_cases hz : s.size = 5 + szF (rpF (k : Int))
  · rw [if_pos hz] at h
    obtain ⟨e1, e2⟩ := told_back k hk s hz st a ho
    refine ⟨e1, fun r hr => ?_⟩
    obtain ⟨t1, t2⟩ := e2 r hr
    refine ⟨t1, fr_back k hk s (1 + szF (rpF (k : Int))) (by omega) h _ ?_⟩
    have hb := nums_bytes s 0
    have h1 : tkB s 0 1 = [(nums s).getD 0 0] := by
      rw [tkB_succ (by omega)]
      simp [tkB]
    rw [eyL, hr.st, ← hst, numB1 _ (by omega) (by omega), t2, ← h1]
    exact (tkB_add s 0 1 _).trans (by simp [tkB])
  · rw [if_neg hz] at h
    exact absurd h (by decide)
theorem dec_no (k : Nat) (hk : k ≤ 12) (s : ByteArray) (st : Int) (hst : (nums s).getD 0 0 = st) (ho : (if 0 ≤ st ∧ st ≤ 13 then drO (k : Int) st s else none) = none) (r : Rep) (V Pl : List Int) (h13 : 0 ≤ r.st ∧ r.st ≤ 13) (hv : V.length = r.vm) (hp : Pl.length = r.pm) (hB : lyB (k : Int) r V Pl = true) : frmB k r V Pl ≠ s := by
  intro e
  have hY : nums s = eyL (k : Int) r V Pl ++ le4 (chkN ((k : Int) :: eyL (k : Int) r V Pl)) := by
    rw [← e]
    exact frm_nums _ (eyL_form k r V Pl hB).2 _
  obtain ⟨_, g2, g3, g4⟩ := rep_good k hk r V Pl h13 hv hp hB s hY
  rw [hst] at g2
  subst g2
  rw [if_pos h13] at ho
  unfold drO at ho
  by_cases hf : fullP (k : Int) r.st = true
  · rw [if_pos hf, g3 hf] at ho
    exact absurd ho (by simp)
  · rw [if_neg hf, if_pos (g4 (by simpa using hf)).2] at ho
    exact absurd ho (by simp)
end Go.Proofs.YtclgkgaobjcifaaGreatDoor

namespace Go.Proofs.YtclgkgaobjcifaaGreatDoor
open Go.RowKit
set_option maxRecDepth 100000
/-- what list answers -/
def LiQ (V : List Int) (w : World) (e : Ending) (w' : World) : Prop := ∃ p c, e = .returned (.slice p V.length c) ∧ OwnL w' w.heap.size p V.length c V ∧ Below w.heap.size w w'
set_option maxHeartbeats 2000000 in
theorem list_any (t : ByteArray) (n : Nat) (hn : t.size = n) (h8 : n ≤ 1000) (w : World) : Calls Tryz.prog 84 #[.string t] w (LiQ (nums t) w) := by
  obtain ⟨i0, hi, hx0, hx1, hx2⟩ := info_parts info3w
  have HIN := hide (And.intro hi (And.intro hx0 (And.intro hx1 hx2)))
  have HNL := hide (show (nums t).length = n from by rw [nums_len, hn])
  have HIX := hide (fun i (hi : i < n) W => index_str t i (by omega) W)
  have HBY := hide (nums_bytes t)
  have HSU := hide (show ∀ j, j < n → (nums t).take (j + 1) = (nums t).take j ++ [(nums t).getD j 0] from fun j hj => by
    have h1 := unhide HNL
    rw [List.take_add_one, List.getD_eq_getElem?_getD, List.getElem?_eq_getElem (by omega)]
    rfl)
  have HAL := hide (show (nums t).take n = nums t from List.take_of_length_le (by have := unhide HNL; omega))
  generalize nums t = L at *
  clear hi hx0 hx1 hx2
  go_enter Tryz.func84, Tryz.ntmps84
  go_wp2
  go_loopw [3, 4] (fun u v wr => ∃ (j : Nat) (p : Option Addr) (c : Nat), j ≤ n ∧ v = .int .i64 (j : Int) ∧ u = .slice p j c ∧ wr.ownsRow w.heap.size 3 1 (.slice p j c) j ((L.take j).map (Value.int .i64)) ∧ Below w.heap.size w wr) (fun _ v _ => n - (intOf v).toNat)
  case atStart => exact ⟨0, none, 0, Nat.zero_le _, rfl, rfl, World.ownsRow_nil _ _ _ _, Below.refl _ _⟩
  case round =>
    obtain ⟨j, p, c, hj, rfl, rfl, hr, hO⟩ := hrel
    obtain ⟨z, hz⟩ : ∃ z, wr = z := ⟨_, rfl⟩
    rw [hz] at hr hO ⊢
    clear hz
    by_cases q : j < n
    · have i1 : (j : Int) < (n : Int) := by omega
      have i2 : 0 ≤ (j : Int) := by omega
      have hix := unhide HIX j q
      have hby := unhide HBY j
      have HS2 := hide (unhide HSU j q)
      obtain ⟨X, hX⟩ : ∃ X, L.getD j 0 = X := ⟨_, rfl⟩
      rw [hX] at hix hby HS2
      have w2 : wrap64 X = X := wrap64_eq _ (by omega) (by omega)
      have HRZ := hide (show (z.alloc (.cells #[.int .i64 X] 3)).ownsRow w.heap.size 3 1 (.slice p j c) j ((L.take j).map (Value.int .i64)) from own_onlyW hr (Only.of_below (P := fun _ => False) (show Below z.heap.size z (z.alloc (.cells #[.int .i64 X] 3)) from (Below.refl _ _).alloc (Nat.le_refl _) _)) (fun _ _ q => q))
      have HZ := hide (show Below w.heap.size w (z.alloc (.cells #[.int .i64 X] 3)) from hO.alloc hO.size _)
      have HLE := hide (show w.heap.size ≤ (z.alloc (.cells #[.int .i64 X] 3)).heap.size from by rw [World.size_alloc]; have := hO.size; omega)
      clear hr hO hX hby
      go_wp2_with (refine wpList_append_lies _ rfl (.tmp 11) (.tmp 16) 22 rfl w.heap.size 3 i0 (.int .i64 0) 1 8 Tryz.underlying22 (unhide HIN).1 (unhide HIN).2.1 (unhide HIN).2.2.1 (unhide HIN).2.2.2 rfl (by decide) _ j ((L.take j).map (Value.int .i64)) rfl (unhide HRZ) ⟨z.heap.size, 0, none⟩ 1 1 [.int .i64 X] rfl rfl (fun q u hu => news_oneW z 3 _ q u hu) (by simp [Value.oneCell']) (by omega) (by unfold maxLen; omega) (by omega) (unhide HLE) _ rfl ?_)
      intro g1 c1 y9 ho9 hg9 hor9 hlt9
      have hO9 := grown_onlyW hg9
      have HF := hide (show y9.ownsRow w.heap.size 3 1 (.slice (some ⟨g1, 0, none⟩) (j + 1) c1) (j + 1) ((L.take (j + 1)).map (Value.int .i64)) ∧ Below w.heap.size w y9 from by
        refine ⟨by rw [unhide HS2, List.map_append, List.map_take]; exact ho9, ?_⟩
        exact (unhide HZ).trans (hO9.below (B := w.heap.size) (unhide HLE) (fun q hq e => by have := ((unhide HRZ).lt q e).1; omega)))
      clear ho9 hg9 hor9 hlt9 hO9 HRZ HLE HZ hix
      go_wp2
      go_roundw
      case rel => exact ⟨j + 1, _, c1, by omega, by go_num, rfl, unhide HF⟩
      case measure => simp [intOf]; omega
    · obtain rfl : j = n := by omega
      have i1 : ¬ ((j : Int) < (j : Int)) := by omega
      rw [unhide HAL] at hr
      have HR := hide (show LiQ L w (.returned (.slice p j c)) z from ⟨p, c, by rw [unhide HNL], ⟨rfl, by rw [unhide HNL]; exact hr⟩, hO⟩)
      clear hr hO q
      go_wp2
      go_ret
      exact unhide HR
set_option maxHeartbeats 2000000 in
theorem volumes_any (t : ByteArray) (ht : t.size = 9) (w : World) : Calls Tryz.prog 83 #[.string t] w (LiQ (tkB t 1 (min (vtN t 0) 8)) w) := by
  have hix : ∀ W, (Instr.index 9 (.string t) (.int .i64 0)).run Tryz.prog W = .ok (.int .u8 ((nums t).getD 0 0)) W := fun W => index_str t 0 (by omega) W
  have hby := nums_bytes t 0
  obtain ⟨N, hN⟩ : ∃ N : Nat, (nums t).getD 0 0 = (N : Int) := ⟨((nums t).getD 0 0).toNat, by omega⟩
  have hv : vtN t 0 = N := by rw [vtN, hN]; rfl
  rw [hv]
  rw [hN] at hix hby
  have w2 : wrap64 (N : Int) = (N : Int) := wrap64_eq _ (by omega) (by omega)
  have hl9 : (9 : Int) = ((t.size : Nat) : Int) := by omega
  by_cases h8 : N > 8
  · have d8 : decide ((N : Int) > 8) = true := decide_eq_true (by omega)
    have HL := hide (list_any (t.extract 1 9) 8 (by rw [ByteArray.size_extract]; omega) (by decide) w)
    rw [show nums (t.extract 1 9) = tkB t 1 8 from nums_cut t 1 8] at HL
    rw [Nat.min_eq_right (by omega)]
    have l1 : (9 : Int) ≤ (t.size : Int) := by omega
    generalize tkB t 1 8 = V at *
    clear hby hN hv h8 hl9
    go_enter Tryz.func83, Tryz.ntmps83
    go_wp2_with fail
    refine (unhide HL).mono ?_
    rintro e y ⟨p, c, rfl, hO, hb⟩
    have HF := hide (show LiQ V w (.returned (.slice p V.length c)) y from ⟨p, c, rfl, hO, hb⟩)
    clear hO hb
    go_wp2
    go_ret
    exact unhide HF
  · have d8 : decide ((N : Int) > 8) = false := decide_eq_false (by omega)
    have HL := hide (list_any (t.extract 1 (1 + N)) N (by rw [ByteArray.size_extract]; omega) (by omega) w)
    rw [show nums (t.extract 1 (1 + N)) = tkB t 1 N from nums_cut t 1 N] at HL
    rw [Nat.min_eq_left (by omega)]
    have w3 : wrap64 (1 + (N : Int)) = ((1 + N : Nat) : Int) := by rw [wrap64_eq _ (by omega) (by omega)]; omega
    have l1 : ((1 + N : Nat) : Int) ≤ (t.size : Int) := by omega
    have l2 : (1 : Int) ≤ ((1 + N : Nat) : Int) := by omega
    have l4 : ((1 + N : Nat) : Int) ≤ 9 := by omega
    have l5 : 1 + N ≤ 9 := by omega
    have l6 : 1 ≤ 1 + N := by omega
    have l3 : (0 : Int) ≤ ((1 + N : Nat) : Int) := by omega
    generalize tkB t 1 N = V at *
    generalize (1 + N : Nat) = M at *
    clear hby hN hv h8 hl9
    go_enter Tryz.func83, Tryz.ntmps83
    go_wp2_with fail
    refine (unhide HL).mono ?_
    rintro e y ⟨p, c, rfl, hO, hb⟩
    have HF := hide (show LiQ V w (.returned (.slice p V.length c)) y from ⟨p, c, rfl, hO, hb⟩)
    clear hO hb
    go_wp2
    go_ret
    exact unhide HF
end Go.Proofs.YtclgkgaobjcifaaGreatDoor

namespace Go.Proofs.YtclgkgaobjcifaaGreatDoor
open Go.RowKit
theorem numB_cons (v : Int) (i : Nat) : numB v (i + 1) = (v / 2 ^ (8 * i) % 256) :: numB v i := by
  apply List.ext_getElem?
  intro j
  cases j with
  | zero => simp [numB]
  | succ j =>
    by_cases h : j < i
    · simp [numB, h]
      rw [show i - (j + 1) = i - 1 - j by omega]
    · simp [numB, h]
theorem strOfNums_app (a b : List Int) : strOfNums (a ++ b) = strOfNums a ++ strOfNums b := by
  simp only [strOfNums, List.map_append]
  apply ByteArray.ext
  simp
theorem strOfNums_size (l : List Int) : (strOfNums l).size = l.length := by simp [strOfNums, ByteArray.size]
/-- One byte as a text. -/
theorem run_one (w : World) (x : Int) (T : TypeId) : (convert 61 9 (.slice (some ⟨w.heap.size, 0, none⟩) 1 1)).run Tryz.prog (w.alloc (Obj.cells #[.int .u8 x] T)) = .ok (.string (strOfNums [x])) (w.alloc (Obj.cells #[.int .u8 x] T)) := by
  have hA := arr_new w .u8 [x] T #[.int .u8 x] rfl
  exact run_convert_bytes_arg (P := Tryz.prog) (w.alloc (Obj.cells #[.int .u8 x] T)) 61 5 Tryz.underlying61 Tryz.underlying5 w.heap.size 0 1 1 [x] rfl (fun i hi => hA.get i (by simpa using hi)) 9 Tryz.underlying9
set_option maxRecDepth 100000 in
set_option maxHeartbeats 1000000 in
theorem rbytes_any (n : Nat) (k : Nat) (hn : n ≤ 9223372036854775807) (hk : k ≤ 8) (w : World) :
    Calls Tryz.prog 79 #[.int .i64 (n : Int), .int .i64 (k : Int)] w fun e w' => e = .returned (.string (strOfNums (numB (n : Int) k))) ∧ Below w.heap.size w w' := by
  have HB := hide (Below.refl w.heap.size w)
  go_enter Tryz.func79, Tryz.ntmps79
  go_wp2
  go_loopw [0, 5, 6] (fun u s i wr => ∃ j m : Nat, j ≤ k ∧ (m : Int) = (n : Int) / 2 ^ (8 * j) ∧ u = .int .i64 (m : Int) ∧ i = .int .i64 (j : Int) ∧ s = .string (strOfNums (numB (n : Int) j)) ∧ Below w.heap.size w wr) (fun _ _ i _ => k - (intOf i).toNat)
  case atStart => exact ⟨0, n, by omega, by simp, rfl, rfl, rfl, unhide HB⟩
  case round =>
    obtain ⟨j, m, hj, hm, rfl, rfl, rfl, hBe⟩ := hrel
    obtain ⟨wo, rfl⟩ : ∃ wo, wo = wr := ⟨_, rfl⟩
    have HBE := hide hBe
    clear hBe HB
    have hml : m ≤ n := by
      have : (n : Int) / 2 ^ (8 * j) ≤ (n : Int) := Int.ediv_le_self _ (by omega)
      omega
    by_cases hjk : j < k
    · have hr : ((m : Int)).tmod 256 = ((m % 256 : Nat) : Int) := rfl
      obtain ⟨R, hR⟩ : ∃ R, m % 256 = R := ⟨_, rfl⟩
      obtain ⟨Q, hQ⟩ : ∃ Q, m / 256 = Q := ⟨_, rfl⟩
      have hq : ((m : Int)).tdiv 256 = (Q : Int) := by rw [← hQ]; rfl
      rw [hR] at hr
      have hR8 : R < 256 := by omega
      have hw8 : IntKind.u8.wrap (R : Int) = (R : Int) := by rw [IntKind.wrap_u8']; omega
      have hcv := run_one wo (R : Int) 5
      have hsz : (strOfNums (numB (n : Int) j)).size = j := by rw [strOfNums_size, numB_len]
      have hs1 : (strOfNums [(R : Int)]).size = 1 := rfl
      have HN := hide (show strOfNums [(R : Int)] ++ strOfNums (numB (n : Int) j) = strOfNums (numB (n : Int) (j + 1)) by
        rw [← strOfNums_app, numB_cons, ← hm, ← hR]
        have : ((m % 256 : Nat) : Int) = (m : Int) % 256 := by omega
        rw [this]
        rfl)
      have HQ := hide (show (Q : Int) = (n : Int) / 2 ^ (8 * (j + 1)) by
        rw [show 8 * (j + 1) = 8 * j + 8 by omega, Int.pow_add, ← Int.ediv_ediv_of_nonneg (by exact Int.pow_nonneg (by omega)), ← hm]
        have : (2 : Int) ^ 8 = 256 := by decide
        rw [this]
        omega)
      have hQl : Q ≤ m := by omega
      clear hR hQ hm
      generalize strOfNums (numB (n : Int) j) = S at *
      generalize strOfNums [(R : Int)] = S1 at *
      have y1 : ¬ 9223372036854775807 < S1.size + S.size := by omega
      have y2 : ¬ 9223372036854775807 < 1 + j := by omega
      go_wp2
      go_roundw
      case rel => exact ⟨j + 1, Q, by omega, unhide HQ, by go_num, by go_num, by rw [unhide HN], (unhide HBE).alloc (by have := (unhide HBE).size; omega) _⟩
      case measure => simp [intOf]; omega
    · have hjk' : j = k := by omega
      subst hjk'
      go_wp2
      go_ret
      exact ⟨rfl, unhide HBE⟩
end Go.Proofs.YtclgkgaobjcifaaGreatDoor
