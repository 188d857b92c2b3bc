import Derived.Test.YtpcmifmgkccfnaaGreatDoorMv16
import Derived.Test.YtpcmifmgkccfnaaGreatDoorMv17
import Derived.Test.YtpcmifmgkccfnaaGreatDoorMv05
import Derived.WalkMore
namespace Go.Proofs.YtpcmifmgkccfnaaGreatDoor
open Go.RowKit
/-- A journal lies at jb: its disk, its next number, has it lost its disk. -/
def Jb (w : World) (jb b nx : Nat) (lost : Bool) : Prop := Blk w jb #[.pointer (some ⟨b, 0, none⟩), .int .u32 (nx : Int), .bool lost] 146
/-- Runs of writes, one behind the other, up to the first that is refused. -/
def runsR : DSt → List (List Wr1) → Int × DSt
  | s, [] => (0, s)
  | s, r :: rs => if (layR s r).1 = 0 then runsR (layR s r).2 rs else layR s r
def runsOf (nx : Nat) (l : List Wr1) : List (List Wr1) := [recL (filled l), [(1, headB nx (secs (filled l)))], filled l, [(1, headB nx [])]]
theorem runsR_drop (s : DSt) (R : List (List Wr1)) (k : Nat) (hk : k < R.length) : runsR s (R.drop k) = if (layR s (R.getD k [])).1 = 0 then runsR (layR s (R.getD k [])).2 (R.drop (k + 1)) else layR s (R.getD k []) := by
  rw [List.drop_eq_getElem_cons hk, runsR]
  have e : R.getD k [] = R[k] := by rw [List.getD_eq_getElem?_getD, List.getElem?_eq_getElem hk]; rfl
  rw [e]
/-- What a commit answers, and leaves. -/
structure CR where
  e : Int
  s : DSt
  nx : Nat
  lost : Bool
def commitR (s : DSt) (nx : Nat) (lost : Bool) (l : List Wr1) : CR :=
  if refE l (s.last.length : Int) ≠ 0 then ⟨refE l (s.last.length : Int), s, nx, lost⟩ else if lost = true then ⟨2, s, nx, lost⟩ else
    if (runsR s (runsOf nx l)).1 = 0 then ⟨0, (runsR s (runsOf nx l)).2, (nx + 1) % 4294967296, lost⟩ else ⟨(runsR s (runsOf nx l)).1, (runsR s (runsOf nx l)).2, nx, true⟩
/-- Behind a call of the journal at jb over the disk at b. -/
def JPost (base b jb : Nat) (v : DV) (s : DSt) (nx : Nat) (lost : Bool) (w w' : World) : Prop :=
  ∃ v', Dk w' base b v' s ∧ Jb w' jb b nx lost ∧ Only (fun k => Fd b v k ∨ k = jb) w w' ∧ ∀ k, Fd b v' k → Fd b v k ∨ w.heap.size ≤ k
set_option maxRecDepth 100000 in
set_option maxHeartbeats 400000 in
theorem settleT_any (w : World) (jb b nx : Nat) (lost : Bool) (h : Jb w jb b nx lost) :
    Calls Tryz.prog 96 #[.pointer (some ⟨jb, 0, none⟩), .bool true] w fun e w' => e = .returned (.tuple #[]) ∧ w' = w.setCell ⟨jb, 1, none⟩ (.int .u32 (((nx + 1) % 4294967296 : Nat) : Int)) := by
  have c1 : w.cell? ⟨jb, 1, none⟩ = some (.int .u32 (nx : Int)) := Blk.cell h 1
  have f1 : w.frozen? ⟨jb, 1, none⟩ = false := Blk.frozen h 1
  have hw : IntKind.u32.wrap ((nx : Int) + 1) = (((nx + 1) % 4294967296 : Nat) : Int) := by
    have : IntKind.u32.wrap ((nx : Int) + 1) = ((nx : Int) + 1) % 4294967296 := by simp [IntKind.wrap, IntKind.signed, IntKind.bits]
    rw [this]
    omega
  clear h
  generalize (((nx + 1) % 4294967296 : Nat) : Int) = m at *
  go_enter Tryz.func96, Tryz.ntmps96
  go_wp2
  go_end0
  exact ⟨rfl, rfl⟩
set_option maxRecDepth 100000 in
set_option maxHeartbeats 400000 in
theorem settleF_any (w : World) (jb b nx : Nat) (lost : Bool) (h : Jb w jb b nx lost) :
    Calls Tryz.prog 96 #[.pointer (some ⟨jb, 0, none⟩), .bool false] w fun e w' => e = .returned (.tuple #[]) ∧ w' = w.setCell ⟨jb, 2, none⟩ (.bool true) := by
  have c1 : w.cell? ⟨jb, 2, none⟩ = some (.bool lost) := Blk.cell h 2
  have f1 : w.frozen? ⟨jb, 2, none⟩ = false := Blk.frozen h 2
  clear h
  go_enter Tryz.func96, Tryz.ntmps96
  go_wp2
  go_end0
  exact ⟨rfl, rfl⟩
set_option maxRecDepth 100000 in
set_option maxHeartbeats 400000 in
theorem commit1T_any (w : World) (jb b nx : Nat) (lost : Bool) (h : Jb w jb b nx lost) (bx ge : Nat) (h0 : w.cell? ⟨bx, 0, none⟩ = some (.pointer (some ⟨jb, 0, none⟩))) (h1 : w.cell? ⟨ge, 0, none⟩ = some (.bool true)) :
    CallsD Tryz.prog 95 #[.pointer (some ⟨bx, 0, none⟩), .pointer (some ⟨ge, 0, none⟩)] .returning w fun e u' w' => u' = .returning ∧ (e = .returned (.tuple #[]) ∧ w' = w.setCell ⟨jb, 1, none⟩ (.int .u32 (((nx + 1) % 4294967296 : Nat) : Int))) := by
  have HC := hide (settleT_any w jb b nx lost h)
  clear h
  generalize (((nx + 1) % 4294967296 : Nat) : Int) = m at *
  go_enter_d Tryz.func95, Tryz.ntmps95
  go_wp2_with fail
  refine (unhide HC).mono ?_
  rintro e x1 ⟨rfl, hx⟩
  have HX := hide hx
  clear hx
  go_wp2
  go_end0
  exact ⟨rfl, unhide HX⟩
set_option maxRecDepth 100000 in
set_option maxHeartbeats 400000 in
theorem commit1F_any (w : World) (jb b nx : Nat) (lost : Bool) (h : Jb w jb b nx lost) (bx ge : Nat) (h0 : w.cell? ⟨bx, 0, none⟩ = some (.pointer (some ⟨jb, 0, none⟩))) (h1 : w.cell? ⟨ge, 0, none⟩ = some (.bool false)) :
    CallsD Tryz.prog 95 #[.pointer (some ⟨bx, 0, none⟩), .pointer (some ⟨ge, 0, none⟩)] .returning w fun e u' w' => u' = .returning ∧ (e = .returned (.tuple #[]) ∧ w' = w.setCell ⟨jb, 2, none⟩ (.bool true)) := by
  have HC := hide (settleF_any w jb b nx lost h)
  clear h
  go_enter_d Tryz.func95, Tryz.ntmps95
  go_wp2_with fail
  refine (unhide HC).mono ?_
  rintro e x1 ⟨rfl, hx⟩
  have HX := hide hx
  clear hx
  go_wp2
  go_end0
  exact ⟨rfl, unhide HX⟩
/-- The runs as they lie in memory, and what else the loop over them needs. -/
structure CW (w y : World) (jb bx ge gR : Nat) (R : List (List Wr1)) : Prop where
  bel : Below w.heap.size w y
  row : ∀ k, k < 4 → ∃ g, y.cell? ⟨gR, k, none⟩ = some (.slice (some ⟨g, 0, none⟩) (R.getD k []).length (R.getD k []).length) ∧ w.heap.size ≤ g ∧ g < y.heap.size ∧ Wls y (some ⟨g, 0, none⟩) (R.getD k [])
  lr : w.heap.size ≤ gR ∧ gR < y.heap.size
  box : Blk y bx #[.pointer (some ⟨jb, 0, none⟩)] 67
  lb : w.heap.size ≤ bx
  ended : Blk y ge #[.bool false] 4
  le : w.heap.size ≤ ge
theorem CW.keep {w y y2 : World} {jb bx ge gR : Nat} {R : List (List Wr1)} {b : Nat} {v : DV} (h : CW w y jb bx ge gR R) (hlt : ∀ k, Fd b v k → k < w.heap.size) (ho : Only (Fd b v) y y2) (hw : Below w.heap.size w y → Only (Fd b v) w y2) : (∀ k, k < 4 → ∃ g, y2.cell? ⟨gR, k, none⟩ = some (.slice (some ⟨g, 0, none⟩) (R.getD k []).length (R.getD k []).length) ∧ w.heap.size ≤ g ∧ g < y.heap.size ∧ Wls y2 (some ⟨g, 0, none⟩) (R.getD k [])) ∧ Blk y2 bx #[.pointer (some ⟨jb, 0, none⟩)] 67 ∧ Blk y2 ge #[.bool false] 4 ∧ Only (Fd b v) w y2 := by
  have hn : ∀ k, w.heap.size ≤ k → ¬ Fd b v k := fun k hk q => by have := hlt k q; omega
  refine ⟨fun k hk => ?_, h.box.only ho (hn _ h.lb), h.ended.only ho (hn _ h.le), hw h.bel⟩
  obtain ⟨g, c, hg, hgl, hl⟩ := h.row k hk
  exact ⟨g, (World.cell?_of_block (a := ⟨gR, k, none⟩) (ho.2 gR h.lr.2 (hn _ h.lr.1))).trans c, hg, hgl, hl.only ho (fun g' o' e => by cases e; exact hn _ hg)⟩
/-- Behind k runs, none of which was refused. -/
def CmI (base b : Nat) (v : DV) (s : DSt) (R : List (List Wr1)) (y : World) (k : Nat) (wr : World) : Prop :=
  ∃ s', DPost base b v s' y wr ∧ Sane s' ∧ runsR s R = runsR s' (R.drop k) ∧ s'.pend.length ≤ s.pend.length + 16 * k ∧ s'.acts.length ≤ s.acts.length + 17 * k
theorem getD0 (nx : Nat) (l : List Wr1) : (runsOf nx l).getD 0 [] = recL (filled l) := rfl
theorem getD1 (nx : Nat) (l : List Wr1) : (runsOf nx l).getD 1 [] = [(1, headB nx (secs (filled l)))] := rfl
theorem getD2 (nx : Nat) (l : List Wr1) : (runsOf nx l).getD 2 [] = filled l := rfl
theorem getD3 (nx : Nat) (l : List Wr1) : (runsOf nx l).getD 3 [] = [(1, headB nx [])] := rfl
theorem CW.make {w y : World} {jb bx ge gR gA gB gC gD nx : Nat} {l : List Wr1} (h16 : l.length ≤ 16) (bel : Below w.heap.size w y)
    (hA : Blk y gA (wrv (recL (filled l))).toArray 111) (hB : Blk y gB #[.int .i64 1, .string (headB nx (secs (filled l)))] 111) (hC : Blk y gC (wrv (filled l)).toArray 111) (hD : Blk y gD #[.int .i64 1, .string (headB nx [])] 111)
    (hR : Blk y gR #[.slice (some ⟨gA, 0, none⟩) 16 16, .slice (some ⟨gB, 0, none⟩) 1 1, .slice (some ⟨gC, 0, none⟩) 16 16, .slice (some ⟨gD, 0, none⟩) 1 1] 61)
    (hbx : Blk y bx #[.pointer (some ⟨jb, 0, none⟩)] 67) (hge : Blk y ge #[.bool false] 4) (l1 : w.heap.size ≤ gA) (l2 : w.heap.size ≤ gB) (l3 : w.heap.size ≤ gC) (l4 : w.heap.size ≤ gD) (l5 : w.heap.size ≤ gR) (l6 : w.heap.size ≤ bx) (l7 : w.heap.size ≤ ge) : CW w y jb bx ge gR (runsOf nx l) := by
  have e16 : (filled l).length = 16 := filled_len l h16
  refine ⟨bel, fun k hk => ?_, ⟨l5, hR.lt⟩, hbx, l6, hge, l7⟩
  obtain h | h | h | h : k = 0 ∨ k = 1 ∨ k = 2 ∨ k = 3 := by omega
  · subst h
    rw [getD0, recL_len, e16]
    exact ⟨gA, hR.cell 0, l1, hA.lt, wls_blk hA⟩
  · subst h
    rw [getD1]
    exact ⟨gB, hR.cell 1, l2, hB.lt, wls_blk (l := [(1, headB nx (secs (filled l)))]) hB⟩
  · subst h
    rw [getD2, e16]
    exact ⟨gC, hR.cell 2, l3, hC.lt, wls_blk hC⟩
  · subst h
    rw [getD3]
    exact ⟨gD, hR.cell 3, l4, hD.lt, wls_blk (l := [(1, headB nx [])]) hD⟩
theorem finF {w y x : World} {base b jb nx : Nat} {v : DV} {s : DSt} {lost : Bool} (hbel : Below w.heap.size w y) (hP : DPost base b v s y x) (hJ : Jb w jb b nx lost) (hjb : ¬ Fd b v jb) : JPost base b jb v s nx true w (x.setCell ⟨jb, 2, none⟩ (.bool true)) := by
  obtain ⟨v', h1, h2, h3⟩ := hP
  have hj : jb < w.heap.size := Blk.lt hJ
  have hs := hbel.size
  have hn : ¬ Fd b v' jb := fun q => by
    rcases h3 jb q with q | q
    · exact hjb q
    · omega
  have hJx : Jb x jb b nx lost := Blk.only (Blk.below hJ hbel hj) h2 hjb
  have ho : Only (fun k => k = jb) x (x.setCell ⟨jb, 2, none⟩ (.bool true)) := (Only.refl _ x).setCell _ _ (fun _ => rfl)
  refine ⟨v', h1.only ho (fun k hk q => hn (q ▸ hk)), ?_, ?_, fun k hk => ?_⟩
  · exact Blk.set hJx 2 (.bool true)
  · have o1 : Only (fun k => Fd b v k ∨ k = jb) w y := (Only.of_below (P := fun _ => False) hbel).mono (fun _ _ q => q.elim)
    exact (o1.trans h2 (fun _ _ q => .inl q)).trans ho (fun _ _ q => .inr q)
  · rcases h3 k hk with q | q
    · exact .inl q
    · exact .inr (by omega)
theorem finT {w y x : World} {base b jb nx m ge : Nat} {v : DV} {s : DSt} {lost : Bool} (hbel : Below w.heap.size w y) (hP : DPost base b v s y x) (hJ : Jb w jb b nx lost) (hjb : ¬ Fd b v jb) (hlt : ∀ k, Fd b v k → k < w.heap.size) (hge : w.heap.size ≤ ge) (hgy : ge < y.heap.size) : JPost base b jb v s m lost w ((x.setCell ⟨ge, 0, none⟩ (.bool true)).setCell ⟨jb, 1, none⟩ (.int .u32 (m : Int))) := by
  obtain ⟨v', h1, h2, h3⟩ := hP
  have hj : jb < w.heap.size := Blk.lt hJ
  have hs := hbel.size
  have hn : ¬ Fd b v' jb := fun q => by
    rcases h3 jb q with q | q
    · exact hjb q
    · omega
  have hg : ¬ Fd b v' ge := fun q => by
    rcases h3 ge q with q | q
    · have := hlt ge q; omega
    · omega
  have hJx : Jb x jb b nx lost := Blk.only (Blk.below hJ hbel hj) h2 hjb
  have o0 : Only (fun k => k = ge) x (x.setCell ⟨ge, 0, none⟩ (.bool true)) := (Only.refl _ x).setCell _ _ (fun _ => rfl)
  have o1 : Only (fun k => k = jb) (x.setCell ⟨ge, 0, none⟩ (.bool true)) ((x.setCell ⟨ge, 0, none⟩ (.bool true)).setCell ⟨jb, 1, none⟩ (.int .u32 (m : Int))) := (Only.refl _ _).setCell _ _ (fun _ => rfl)
  refine ⟨v', (h1.only o0 (fun k hk q => hg (q ▸ hk))).only o1 (fun k hk q => hn (q ▸ hk)), ?_, ?_, fun k hk => ?_⟩
  · exact (Blk.only hJx o0 (fun q => by have q : jb = ge := q; omega)).set 1 (.int .u32 (m : Int))
  · have q1 : Only (fun k => Fd b v k ∨ k = jb) w y := (Only.of_below (P := fun _ => False) hbel).mono (fun _ _ q => q.elim)
    exact ((q1.trans h2 (fun _ _ q => .inl q)).trans o0 (fun k hk q => by have q : k = ge := q; omega)).trans o1 (fun _ _ q => .inr q)
  · rcases h3 k hk with q | q
    · exact .inl q
    · exact .inr (by omega)
theorem fin0 {w y : World} {base b jb nx : Nat} {v : DV} {s : DSt} {lost : Bool} (hbel : Below w.heap.size w y) (h : Dk w base b v s) (hJ : Jb w jb b nx lost) : JPost base b jb v s nx lost w y :=
  ⟨v, h.below hbel, Blk.below hJ hbel (Blk.lt hJ), (Only.of_below (P := fun _ => False) hbel).mono (fun _ _ q => q.elim), fun _ q => .inl q⟩
theorem secs_fit (l : List Wr1) (size : Int) (hs : size ≤ 1024) (h : l.any (freeP size) = false) : ∀ z ∈ secs (filled l), fitsP z 4 := fun z hz => by
  simp only [secs, filled, List.mem_map, List.mem_append] at hz
  obtain ⟨x, hx, rfl⟩ := hz
  rcases hx with hx | hx
  · have := List.any_eq_false.1 h x hx
    simp [freeP] at this
    exact fits4j _ (by omega) (by omega)
  · have := List.eq_of_mem_replicate hx
    rw [this]
    exact fits4j _ (by decide) (by decide)
theorem ref_zero (l : List Wr1) (size : Int) (h : refE l size = 0) : l.length ≤ 16 ∧ l.any (freeP size) = false ∧ (secs l).Nodup ∧ l.any longP = false := by
  unfold refE at h
  split at h
  · cases h
  · split at h
    · cases h
    · split at h
      · cases h
      · split at h
        · cases h
        · rename_i h1 h2 h3 h4
          exact ⟨by omega, by simpa using h2, by simpa using h3, by simpa using h4⟩
end Go.Proofs.YtpcmifmgkccfnaaGreatDoor

namespace Go.Proofs.YtpcmifmgkccfnaaGreatDoor
open Go.RowKit
def rdV (r : RSt) (k : Int) : Int := if r.e = 0 then numV k r.r else 0
def rdS (r : RSt) (k : Int) : RSt := stepR r (numE k r.r) k.toNat
/-- The first of the homes that may not be: it is no free sector and not the fill, or it is there already. -/
def badP (size : Int) (l : List Int) (z : Int) : Prop := z ≠ 18 ∧ (¬ (19 ≤ z ∧ z < size) ∨ z ∈ l)
instance (size : Int) (l : List Int) (z : Int) : Decidable (badP size l z) := inferInstanceAs (Decidable (_ ∧ _))
def homesF (size : Int) : Nat → RSt → List Int → RSt × List Int
  | 0, r, l => (r, l)
  | k + 1, r, l => if badP size l (rdV r 4) then (rdS r 4, l) else homesF size k (rdS r 4) (l ++ [rdV r 4])
theorem rdS_ok (r : RSt) (k : Int) (N : Nat) (h : r.ok N) : (rdS r k).ok N := stepR_ok r _ _ N h (fun e => (numE_le k r.r e).1)
def HoI (w : World) (rb : Nat) (size : Int) (r0 : RSt) (k : Nat) (v : Value) (wr : World) : Prop :=
  ∃ r' l', homesF size 16 r0 [] = homesF size (16 - k) r' l' ∧ Rds wr rb r' ∧ r'.ok 9223372036854775807 ∧ wr.ownsRow w.heap.size 3 1 v l'.length (l'.map (Value.int .i64)) ∧ l'.length = k ∧ ETy wr ∧ Only (fun q => q = rb) w wr
def HoP (w : World) (rb : Nat) (H : RSt × List Int) (v : Value) (w' : World) : Prop := w'.ownsRow w.heap.size 3 1 v H.2.length (H.2.map (Value.int .i64)) ∧ Rds w' rb H.1 ∧ H.1.ok 9223372036854775807 ∧ Only (fun q => q = rb) w w'
theorem infoI3h : (Tryz.prog.info? 3).map (fun i => (i.zero, i.size, i.bytes)) = some (some (.int .i64 0), 1, 8) := by kernel_rfl
theorem news_one (w : World) (T : TypeId) (x : Value) (j : Nat) (u : Value) (hu : [x][j]? = some u) : (w.alloc (.cells #[x] T)).cell? (Addr.add ⟨w.heap.size, 0, none⟩ j) = some u := by
  rw [Addr.add_mid, Nat.zero_add, (Blk.new w T #[x]).cell j]
  simpa using hu
theorem homes_one (size : Int) (k : Nat) (hk : k < 16) (r : RSt) (l : List Int) : homesF size (16 - k) r l = if badP size l (rdV r 4) then (rdS r 4, l) else homesF size (16 - (k + 1)) (rdS r 4) (l ++ [rdV r 4]) := by
  rw [show 16 - k = (16 - (k + 1)) + 1 by omega, homesF]
set_option maxRecDepth 100000 in
set_option maxHeartbeats 2000000 in
theorem readHomes_any (w : World) (rb : Nat) (r : RSt) (h : Rds w rb r) (hg : ETy w) (hN : r.ok 9223372036854775807) (size : Int) :
    Calls Tryz.prog 122 #[.pointer (some ⟨rb, 0, none⟩), .int .i64 size] w fun e w' => ∃ v, e = .returned v ∧ HoP w rb (homesF size 16 r []) v w' := by
  have hrl : rb < w.heap.size := Blk.lt h
  have X0 := hide (show HoI w rb size r 0 (.slice none 0 0) w from ⟨r, [], rfl, h, hN, World.ownsRow_nil _ _ _ _, rfl, hg, Only.refl _ _⟩)
  have HGL := hide hg.lt
  clear h hg hN
  obtain ⟨i0, hi0, hz0, hz1, hz2⟩ := info_parts infoI3h
  have HI := hide (And.intro hi0 (And.intro hz0 (And.intro hz1 hz2)))
  clear hi0 hz0 hz1 hz2
  go_enter Tryz.func122, Tryz.ntmps122
  go_wp2
  go_step3
  go_wp2
  go_step3
  go_wp2
  go_loopw [5, 9] (fun u i wr => ∃ k : Nat, k ≤ 16 ∧ i = .int .i64 (k : Int) ∧ HoI w rb size r k u wr) (fun _ i _ => 16 - (intOf i).toNat)
  case atStart => exact ⟨0, by omega, rfl, unhide X0⟩
  case round =>
    obtain ⟨k, hk, rfl, r', l', hH, hR, hN, hO, hl, hg, hW⟩ := hrel
    obtain ⟨wo, rfl⟩ : ∃ wo, wo = wr := ⟨_, rfl⟩
    clear X0
    obtain ⟨pv, cv, rfl, hcv⟩ := row_form hO
    rw [hl] at hcv ⊢
    by_cases hk16 : k < 16
    · have hk16' : (k : Int) < 16 := by omega
      have hst := homes_one size k hk16 r' l'
      have HNC := hide (numS wo rb r' hR hg hN 4)
      have hN1 := rdS_ok r' 4 _ hN
      have HH := hide hH
      have HST := hide hst
      have HN1 := hide hN1
      have HOW := hide (And.intro hO (And.intro hg hW))
      have HL := hide hl
      have HRN := hide (hR.ne hg)
      clear hR hN hO hl hg hW hH hst hN1
      go_wp2_with fail
      refine (unhide HNC).mono ?_
      rintro e x1 ⟨rfl, hR1, hO1⟩
      have HR1 := hide (show Rds x1 rb (rdS r' 4) from hR1)
      have HO1 := hide (show Only (fun q => q = rb) w x1 from (unhide HOW).2.2.trans hO1 (fun _ _ q => q))
      have HRW := hide (show x1.ownsRow w.heap.size 3 1 (.slice pv k cv) l'.length (l'.map (Value.int .i64)) from owns_only (by have := (unhide HOW).1; rw [unhide HL] at this ⊢; exact this) hO1 (fun q hq e => by have := ((unhide HOW).1.lt q (by rw [unhide HL]; exact hq)).1; have e : q = rb := e; omega))
      have HG1 := hide ((unhide HOW).2.1.only hO1 (fun q => unhide HRN q.symm))
      clear hR1 hO1 HNC HOW
      obtain ⟨z, hz⟩ : ∃ z, rdV r' 4 = z := ⟨_, rfl⟩
      have hz' : (if r'.e = 0 then numV 4 r'.r else 0) = z := hz
      rw [hz']
      rw [hz] at HST
      clear hz hz'
      by_cases h18 : z = 18
      · subst h18
        have HNB := hide (show homesF size 16 r [] = homesF size (16 - (k + 1)) (rdS r' 4) (l' ++ [18]) from by rw [unhide HH, unhide HST, if_neg (fun q => q.1 rfl)])
        clear HH HST
        have HRA := hide (show (x1.alloc (.cells #[.int .i64 18] 3)).ownsRow w.heap.size 3 1 (.slice pv k cv) k (l'.map (Value.int .i64)) from by have := owns_only (unhide HRW) (Only.of_below (P := fun _ => False) ((Below.refl _ x1).alloc (Nat.le_refl _) (.cells #[.int .i64 18] 3))) (fun _ _ q => q); rw [unhide HL] at this; exact this)
        have hxs : w.heap.size ≤ (x1.alloc (.cells #[.int .i64 18] 3)).heap.size := by have := (unhide HO1).size; simp; omega
        have HXS := hide hxs
        clear hxs
        go_wp2_with (refine wpList_append_own _ rfl (.tmp 29) (.tmp 31) 71 rfl w.heap.size 3 i0 (.int .i64 0) 1 8 Tryz.underlying71 (unhide HI).1 (unhide HI).2.1 (unhide HI).2.2.1 (unhide HI).2.2.2 rfl (by decide) _ k (l'.map (Value.int .i64)) rfl (unhide HRA) ⟨x1.heap.size, 0, none⟩ 1 1 [.int .i64 18] rfl rfl (fun q u hu => news_one x1 3 _ q u hu) (by simp [Value.oneCell']) (by unfold maxLen; omega) (by omega) (unhide HXS) ?_)
        intro v5 x5 ho5 hg5 _
        have hO5 : Only (fun q => (Value.slice pv k cv).ownBlock = some q) (x1.alloc (.cells #[.int .i64 18] 3)) x5 := (Only.refl _ _).grown hg5 (fun q _ e => e)
        have hnr : ∀ q, (Value.slice pv k cv).ownBlock = some q → w.heap.size ≤ q := fun q hq => ((unhide HRA).lt q hq).1
        have HRR := hide (show HoI w rb size r (k + 1) v5 x5 from by
          refine ⟨_, _, unhide HNB, ?_, unhide HN1, ?_, by simp [unhide HL], ?_, ?_⟩
          · exact Rds.only (Rds.only (unhide HR1) ((Only.refl (fun _ => False) x1).alloc _) (fun q => q)) hO5 (fun q => by have := hnr rb q; omega)
          · simpa [unhide HL] using ho5
          · have hgv := ((unhide HG1).only ((Only.refl (fun _ => False) x1).alloc (.cells #[.int .i64 18] 3)) (fun q => q))
            exact hgv.only hO5 (fun q => by have := hnr _ q; have := unhide HGL; omega)
          · exact ((unhide HO1).alloc _).trans hO5 (fun q hq e => by have := hnr q e; omega))
        clear ho5 hg5 hO5 hnr HRA
        go_wp2
        go_roundw
        case rel => exact ⟨k + 1, by omega, by go_num, unhide HRR⟩
        case measure => simp [intOf]; omega
      · have h18b : (z != 18) = true := by simp [h18]
        have HFR := hide (fun W => isFree_any z size W)
        go_wp2_with fail
        refine (unhide HFR _).mono ?_
        rintro e x2 ⟨rfl, rfl⟩
        by_cases hfr : 19 ≤ z ∧ z < size
        · have hd : decide (19 ≤ z ∧ z < size) = true := by simp [hfr]
          rw [hd]
          clear hd
          go_wp2
          go_loopw [21] (fun i wr => ∃ m : Nat, m ≤ k ∧ i = .int .i64 (m : Int) ∧ (∀ j, j < m → l'.getD j 0 ≠ z) ∧ wr = x2) (fun i _ => k - (intOf i).toNat)
          case atStart => exact ⟨0, by omega, rfl, fun j hj => absurd hj (by omega), rfl⟩
          case round =>
            obtain ⟨m, hm, rfl, hA, rfl⟩ := hrel
            have HA := hide hA
            clear hA
            by_cases hmk : m < k
            · obtain ⟨gv, cap', ev, _⟩ := (unhide HRW).form (by rw [unhide HL]; omega)
              have hpv : pv = some ⟨gv, 0, none⟩ := by simp at ev; exact ev.1
              subst hpv
              have cm : wr.cell? ⟨gv, m, none⟩ = some (.int .i64 (l'.getD m 0)) := by
                rw [(own_at (unhide HRW) rfl m (by rw [unhide HL]; exact hmk)).1]
                have hml : m < l'.length := by rw [unhide HL]; exact hmk
                simp [List.getD_eq_getElem?_getD, hml]
              have hmk' : (m : Int) < (k : Int) := by omega
              have hm0 : 0 ≤ (m : Int) := by omega
              clear ev
              by_cases heq : l'.getD m 0 = z
              · have HIN := hide (show z ∈ l' from by rw [← heq, List.getD_eq_getElem?_getD, List.getElem?_eq_getElem (by rw [unhide HL]; exact hmk)]; exact List.getElem_mem _)
                rw [heq] at cm
                have HPO := hide (show HoP w rb (homesF size 16 r []) (.slice (some ⟨gv, 0, none⟩) k cv) wr from by
                  rw [unhide HH, unhide HST, if_pos ⟨h18, .inr (unhide HIN)⟩]
                  exact ⟨unhide HRW, unhide HR1, unhide HN1, unhide HO1⟩)
                clear HH HST HIN heq
                go_wp2
                try rw [Exit.noGoto_ret]
                go_ret
                exact ⟨_, rfl, unhide HPO⟩
              · have HA2 := hide (show ∀ j, j < m + 1 → l'.getD j 0 ≠ z from fun j hj => by
                  by_cases hjm : j = m
                  · subst hjm; exact heq
                  · exact unhide HA j (by omega))
                have hne : (l'.getD m 0 == z) = false := by simpa using heq
                generalize l'.getD m 0 = lm at *
                go_wp2
                go_roundw
                case rel => exact ⟨m + 1, by omega, by go_num, unhide HA2, by first | rfl | trivial⟩
                case measure => simp [intOf]; omega
            · have hmk' : m = k := by omega
              subst hmk'
              have HNB := hide (show homesF size 16 r [] = homesF size (16 - (m + 1)) (rdS r' 4) (l' ++ [z]) from by
                rw [unhide HH, unhide HST, if_neg (fun q => by
                  rcases q.2 with q | q
                  · exact q hfr
                  · obtain ⟨j, hj, e⟩ := List.getElem_of_mem q
                    refine unhide HA j (by rw [← unhide HL]; exact hj) ?_
                    rw [List.getD_eq_getElem?_getD, List.getElem?_eq_getElem hj]
                    exact e)])
              clear HH HST HA hmk
              have HRA := hide (show (wr.alloc (.cells #[.int .i64 z] 3)).ownsRow w.heap.size 3 1 (.slice pv m cv) m (l'.map (Value.int .i64)) from by have := owns_only (unhide HRW) (Only.of_below (P := fun _ => False) ((Below.refl _ wr).alloc (Nat.le_refl _) (.cells #[.int .i64 z] 3))) (fun _ _ q => q); rw [unhide HL] at this; exact this)
              have hxs : w.heap.size ≤ (wr.alloc (.cells #[.int .i64 z] 3)).heap.size := by have := (unhide HO1).size; simp; omega
              have HXS := hide hxs
              clear hxs
              go_wp2_with (refine wpList_append_own _ rfl (.tmp 29) (.tmp 31) 71 rfl w.heap.size 3 i0 (.int .i64 0) 1 8 Tryz.underlying71 (unhide HI).1 (unhide HI).2.1 (unhide HI).2.2.1 (unhide HI).2.2.2 rfl (by decide) _ m (l'.map (Value.int .i64)) rfl (unhide HRA) ⟨wr.heap.size, 0, none⟩ 1 1 [.int .i64 z] rfl rfl (fun q u hu => news_one wr 3 _ q u hu) (by simp [Value.oneCell']) (by unfold maxLen; omega) (by omega) (unhide HXS) ?_)
              intro v5 x5 ho5 hg5 _
              have hO5 : Only (fun q => (Value.slice pv m cv).ownBlock = some q) (wr.alloc (.cells #[.int .i64 z] 3)) x5 := (Only.refl _ _).grown hg5 (fun q _ e => e)
              have hnr : ∀ q, (Value.slice pv m cv).ownBlock = some q → w.heap.size ≤ q := fun q hq => ((unhide HRA).lt q hq).1
              have HRR := hide (show HoI w rb size r (m + 1) v5 x5 from by
                refine ⟨_, _, unhide HNB, ?_, unhide HN1, ?_, by simp [unhide HL], ?_, ?_⟩
                · exact Rds.only (Rds.only (unhide HR1) ((Only.refl (fun _ => False) wr).alloc _) (fun q => q)) hO5 (fun q => by have := hnr rb q; omega)
                · simpa [unhide HL] using ho5
                · have hgv := ((unhide HG1).only ((Only.refl (fun _ => False) wr).alloc (.cells #[.int .i64 z] 3)) (fun q => q))
                  exact hgv.only hO5 (fun q => by have := hnr _ q; have := unhide HGL; omega)
                · exact ((unhide HO1).alloc _).trans hO5 (fun q hq e => by have := hnr q e; omega))
              clear ho5 hg5 hO5 hnr HRA
              go_wp2
              go_roundw
              case rel => exact ⟨m + 1, by omega, by go_num, unhide HRR⟩
              case measure => simp [intOf]; omega
        · have hd : decide (19 ≤ z ∧ z < size) = false := by simpa using hfr
          have HPO := hide (show HoP w rb (homesF size 16 r []) (.slice pv k cv) x2 from by
            rw [unhide HH, unhide HST, if_pos ⟨h18, .inl hfr⟩]
            exact ⟨unhide HRW, unhide HR1, unhide HN1, unhide HO1⟩)
          rw [hd]
          clear HH HST hd hfr
          go_wp2
          try rw [Exit.noGoto_ret]
          go_ret
          exact ⟨_, rfl, unhide HPO⟩
    · have hk' : k = 16 := by omega
      subst hk'
      have HPO := hide (show HoP w rb (homesF size 16 r []) (.slice pv 16 cv) wo from by
        rw [hH]
        refine ⟨?_, hR, hN, hW⟩
        show wo.ownsRow w.heap.size 3 1 (.slice pv 16 cv) l'.length _
        rw [hl] at hO ⊢
        exact hO)
      clear hH hR hN hO hl hg hW hk16
      go_wp2
      try rw [Exit.noGoto_ret]
      go_ret
      exact ⟨_, rfl, unhide HPO⟩
end Go.Proofs.YtpcmifmgkccfnaaGreatDoor
