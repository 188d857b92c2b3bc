import Derived.Test.YtkkndlkelpdehaaGreatDoorMr09
import Derived.Test.YtkkndlkelpdehaaGreatDoorMr10
import Derived.Test.YtkkndlkelpdehaaGreatDoorMr11
import Derived.Test.YtkkndlkelpdehaaGreatDoorMr00
import Derived.LaidEql
import Derived.Stop.Asserts
import Derived.RowKitTokens
namespace Go.Proofs.YtkkndlkelpdehaaGreatDoor
open Go.RowKit
/-- A journal lies at jb: its disk, its next number, has it lost its disk. -/
def Jb (w : World) (jb b nx : Nat) (lost : Bool) : Prop := Blk w jb #[.pointer (some ⟨b, 0, none⟩), .int .u32 (nx : Int), .bool lost] 100
/-- Runs of writes, one behind the other, up to the first that is refused. -/
def runsR : DSt → List (List Wr1) → Int × DSt
  | s, [] => (0, s)
  | s, r :: rs => if (layR s r).1 = 0 then runsR (layR s r).2 rs else layR s r
def runsOf (nx : Nat) (l : List Wr1) : List (List Wr1) := [recL (filled l), [(1, headB nx (secs (filled l)))], filled l, [(1, headB nx [])]]
theorem runsR_drop (s : DSt) (R : List (List Wr1)) (k : Nat) (hk : k < R.length) : runsR s (R.drop k) = if (layR s (R.getD k [])).1 = 0 then runsR (layR s (R.getD k [])).2 (R.drop (k + 1)) else layR s (R.getD k []) := by
  rw [List.drop_eq_getElem_cons hk, runsR]
  have e : R.getD k [] = R[k] := by rw [List.getD_eq_getElem?_getD, List.getElem?_eq_getElem hk]; rfl
  rw [e]
/-- What a commit answers, and leaves. -/
structure CR where
  e : Int
  s : DSt
  nx : Nat
  lost : Bool
def commitR (s : DSt) (nx : Nat) (lost : Bool) (l : List Wr1) : CR :=
  if refE l (s.last.length : Int) ≠ 0 then ⟨refE l (s.last.length : Int), s, nx, lost⟩ else if lost = true then ⟨2, s, nx, lost⟩ else
    if (runsR s (runsOf nx l)).1 = 0 then ⟨0, (runsR s (runsOf nx l)).2, (nx + 1) % 4294967296, lost⟩ else ⟨(runsR s (runsOf nx l)).1, (runsR s (runsOf nx l)).2, nx, true⟩
/-- Behind a call of the journal at jb over the disk at b. -/
def JPost (base b jb : Nat) (v : DV) (s : DSt) (nx : Nat) (lost : Bool) (w w' : World) : Prop :=
  ∃ v', Dk w' base b v' s ∧ Jb w' jb b nx lost ∧ Only (fun k => Fd b v k ∨ k = jb) w w' ∧ ∀ k, Fd b v' k → Fd b v k ∨ w.heap.size ≤ k
set_option maxRecDepth 100000 in
set_option maxHeartbeats 400000 in
theorem settleT_any (w : World) (jb b nx : Nat) (lost : Bool) (h : Jb w jb b nx lost) :
    Calls Tryz.prog 51 #[.pointer (some ⟨jb, 0, none⟩), .bool true] w fun e w' => e = .returned (.tuple #[]) ∧ w' = w.setCell ⟨jb, 1, none⟩ (.int .u32 (((nx + 1) % 4294967296 : Nat) : Int)) := by
  have c1 : w.cell? ⟨jb, 1, none⟩ = some (.int .u32 (nx : Int)) := Blk.cell h 1
  have f1 : w.frozen? ⟨jb, 1, none⟩ = false := Blk.frozen h 1
  have hw : IntKind.u32.wrap ((nx : Int) + 1) = (((nx + 1) % 4294967296 : Nat) : Int) := by
    have : IntKind.u32.wrap ((nx : Int) + 1) = ((nx : Int) + 1) % 4294967296 := by simp [IntKind.wrap, IntKind.signed, IntKind.bits]
    rw [this]
    omega
  clear h
  generalize (((nx + 1) % 4294967296 : Nat) : Int) = m at *
  go_enter Tryz.func51, Tryz.ntmps51
  go_wp2
  go_end0
  exact ⟨rfl, rfl⟩
set_option maxRecDepth 100000 in
set_option maxHeartbeats 400000 in
theorem settleF_any (w : World) (jb b nx : Nat) (lost : Bool) (h : Jb w jb b nx lost) :
    Calls Tryz.prog 51 #[.pointer (some ⟨jb, 0, none⟩), .bool false] w fun e w' => e = .returned (.tuple #[]) ∧ w' = w.setCell ⟨jb, 2, none⟩ (.bool true) := by
  have c1 : w.cell? ⟨jb, 2, none⟩ = some (.bool lost) := Blk.cell h 2
  have f1 : w.frozen? ⟨jb, 2, none⟩ = false := Blk.frozen h 2
  clear h
  go_enter Tryz.func51, Tryz.ntmps51
  go_wp2
  go_end0
  exact ⟨rfl, rfl⟩
set_option maxRecDepth 100000 in
set_option maxHeartbeats 400000 in
theorem commit1T_any (w : World) (jb b nx : Nat) (lost : Bool) (h : Jb w jb b nx lost) (bx ge : Nat) (h0 : w.cell? ⟨bx, 0, none⟩ = some (.pointer (some ⟨jb, 0, none⟩))) (h1 : w.cell? ⟨ge, 0, none⟩ = some (.bool true)) :
    CallsD Tryz.prog 50 #[.pointer (some ⟨bx, 0, none⟩), .pointer (some ⟨ge, 0, none⟩)] .returning w fun e u' w' => u' = .returning ∧ (e = .returned (.tuple #[]) ∧ w' = w.setCell ⟨jb, 1, none⟩ (.int .u32 (((nx + 1) % 4294967296 : Nat) : Int))) := by
  have HC := hide (settleT_any w jb b nx lost h)
  clear h
  generalize (((nx + 1) % 4294967296 : Nat) : Int) = m at *
  go_enter_d Tryz.func50, Tryz.ntmps50
  go_wp2_with fail
  refine (unhide HC).mono ?_
  rintro e x1 ⟨rfl, hx⟩
  have HX := hide hx
  clear hx
  go_wp2
  go_end0
  exact ⟨rfl, unhide HX⟩
set_option maxRecDepth 100000 in
set_option maxHeartbeats 400000 in
theorem commit1F_any (w : World) (jb b nx : Nat) (lost : Bool) (h : Jb w jb b nx lost) (bx ge : Nat) (h0 : w.cell? ⟨bx, 0, none⟩ = some (.pointer (some ⟨jb, 0, none⟩))) (h1 : w.cell? ⟨ge, 0, none⟩ = some (.bool false)) :
    CallsD Tryz.prog 50 #[.pointer (some ⟨bx, 0, none⟩), .pointer (some ⟨ge, 0, none⟩)] .returning w fun e u' w' => u' = .returning ∧ (e = .returned (.tuple #[]) ∧ w' = w.setCell ⟨jb, 2, none⟩ (.bool true)) := by
  have HC := hide (settleF_any w jb b nx lost h)
  clear h
  go_enter_d Tryz.func50, Tryz.ntmps50
  go_wp2_with fail
  refine (unhide HC).mono ?_
  rintro e x1 ⟨rfl, hx⟩
  have HX := hide hx
  clear hx
  go_wp2
  go_end0
  exact ⟨rfl, unhide HX⟩
/-- The runs as they lie in memory, and what else the loop over them needs. -/
structure CW (w y : World) (jb bx ge gR : Nat) (R : List (List Wr1)) : Prop where
  bel : Below w.heap.size w y
  row : ∀ k, k < 4 → ∃ g, y.cell? ⟨gR, k, none⟩ = some (.slice (some ⟨g, 0, none⟩) (R.getD k []).length (R.getD k []).length) ∧ w.heap.size ≤ g ∧ g < y.heap.size ∧ Wls y (some ⟨g, 0, none⟩) (R.getD k [])
  lr : w.heap.size ≤ gR ∧ gR < y.heap.size
  box : Blk y bx #[.pointer (some ⟨jb, 0, none⟩)] 53
  lb : w.heap.size ≤ bx
  ended : Blk y ge #[.bool false] 4
  le : w.heap.size ≤ ge
theorem CW.keep {w y y2 : World} {jb bx ge gR : Nat} {R : List (List Wr1)} {b : Nat} {v : DV} (h : CW w y jb bx ge gR R) (hlt : ∀ k, Fd b v k → k < w.heap.size) (ho : Only (Fd b v) y y2) (hw : Below w.heap.size w y → Only (Fd b v) w y2) : (∀ k, k < 4 → ∃ g, y2.cell? ⟨gR, k, none⟩ = some (.slice (some ⟨g, 0, none⟩) (R.getD k []).length (R.getD k []).length) ∧ w.heap.size ≤ g ∧ g < y.heap.size ∧ Wls y2 (some ⟨g, 0, none⟩) (R.getD k [])) ∧ Blk y2 bx #[.pointer (some ⟨jb, 0, none⟩)] 53 ∧ Blk y2 ge #[.bool false] 4 ∧ Only (Fd b v) w y2 := by
  have hn : ∀ k, w.heap.size ≤ k → ¬ Fd b v k := fun k hk q => by have := hlt k q; omega
  refine ⟨fun k hk => ?_, h.box.only ho (hn _ h.lb), h.ended.only ho (hn _ h.le), hw h.bel⟩
  obtain ⟨g, c, hg, hgl, hl⟩ := h.row k hk
  exact ⟨g, (World.cell?_of_block (a := ⟨gR, k, none⟩) (ho.2 gR h.lr.2 (hn _ h.lr.1))).trans c, hg, hgl, hl.only ho (fun g' o' e => by cases e; exact hn _ hg)⟩
/-- Behind k runs, none of which was refused. -/
def CmI (base b : Nat) (v : DV) (s : DSt) (R : List (List Wr1)) (y : World) (k : Nat) (wr : World) : Prop :=
  ∃ s', DPost base b v s' y wr ∧ Sane s' ∧ runsR s R = runsR s' (R.drop k) ∧ s'.pend.length ≤ s.pend.length + 16 * k ∧ s'.acts.length ≤ s.acts.length + 17 * k
theorem getD0 (nx : Nat) (l : List Wr1) : (runsOf nx l).getD 0 [] = recL (filled l) := rfl
theorem getD1 (nx : Nat) (l : List Wr1) : (runsOf nx l).getD 1 [] = [(1, headB nx (secs (filled l)))] := rfl
theorem getD2 (nx : Nat) (l : List Wr1) : (runsOf nx l).getD 2 [] = filled l := rfl
theorem getD3 (nx : Nat) (l : List Wr1) : (runsOf nx l).getD 3 [] = [(1, headB nx [])] := rfl
theorem CW.make {w y : World} {jb bx ge gR gA gB gC gD nx : Nat} {l : List Wr1} (h16 : l.length ≤ 16) (bel : Below w.heap.size w y)
    (hA : Blk y gA (wrv (recL (filled l))).toArray 68) (hB : Blk y gB #[.int .i64 1, .string (headB nx (secs (filled l)))] 68) (hC : Blk y gC (wrv (filled l)).toArray 68) (hD : Blk y gD #[.int .i64 1, .string (headB nx [])] 68)
    (hR : Blk y gR #[.slice (some ⟨gA, 0, none⟩) 16 16, .slice (some ⟨gB, 0, none⟩) 1 1, .slice (some ⟨gC, 0, none⟩) 16 16, .slice (some ⟨gD, 0, none⟩) 1 1] 64)
    (hbx : Blk y bx #[.pointer (some ⟨jb, 0, none⟩)] 53) (hge : Blk y ge #[.bool false] 4) (l1 : w.heap.size ≤ gA) (l2 : w.heap.size ≤ gB) (l3 : w.heap.size ≤ gC) (l4 : w.heap.size ≤ gD) (l5 : w.heap.size ≤ gR) (l6 : w.heap.size ≤ bx) (l7 : w.heap.size ≤ ge) : CW w y jb bx ge gR (runsOf nx l) := by
  have e16 : (filled l).length = 16 := filled_len l h16
  refine ⟨bel, fun k hk => ?_, ⟨l5, hR.lt⟩, hbx, l6, hge, l7⟩
  obtain h | h | h | h : k = 0 ∨ k = 1 ∨ k = 2 ∨ k = 3 := by omega
  · subst h
    rw [getD0, recL_len, e16]
    exact ⟨gA, hR.cell 0, l1, hA.lt, wls_blk hA⟩
  · subst h
    rw [getD1]
    exact ⟨gB, hR.cell 1, l2, hB.lt, wls_blk (l := [(1, headB nx (secs (filled l)))]) hB⟩
  · subst h
    rw [getD2, e16]
    exact ⟨gC, hR.cell 2, l3, hC.lt, wls_blk hC⟩
  · subst h
    rw [getD3]
    exact ⟨gD, hR.cell 3, l4, hD.lt, wls_blk (l := [(1, headB nx [])]) hD⟩
theorem finF {w y x : World} {base b jb nx : Nat} {v : DV} {s : DSt} {lost : Bool} (hbel : Below w.heap.size w y) (hP : DPost base b v s y x) (hJ : Jb w jb b nx lost) (hjb : ¬ Fd b v jb) : JPost base b jb v s nx true w (x.setCell ⟨jb, 2, none⟩ (.bool true)) := by
  obtain ⟨v', h1, h2, h3⟩ := hP
  have hj : jb < w.heap.size := Blk.lt hJ
  have hs := hbel.size
  have hn : ¬ Fd b v' jb := fun q => by
    rcases h3 jb q with q | q
    · exact hjb q
    · omega
  have hJx : Jb x jb b nx lost := Blk.only (Blk.below hJ hbel hj) h2 hjb
  have ho : Only (fun k => k = jb) x (x.setCell ⟨jb, 2, none⟩ (.bool true)) := (Only.refl _ x).setCell _ _ (fun _ => rfl)
  refine ⟨v', h1.only ho (fun k hk q => hn (q ▸ hk)), ?_, ?_, fun k hk => ?_⟩
  · exact Blk.set hJx 2 (.bool true)
  · have o1 : Only (fun k => Fd b v k ∨ k = jb) w y := (Only.of_below (P := fun _ => False) hbel).mono (fun _ _ q => q.elim)
    exact (o1.trans h2 (fun _ _ q => .inl q)).trans ho (fun _ _ q => .inr q)
  · rcases h3 k hk with q | q
    · exact .inl q
    · exact .inr (by omega)
theorem finT {w y x : World} {base b jb nx m ge : Nat} {v : DV} {s : DSt} {lost : Bool} (hbel : Below w.heap.size w y) (hP : DPost base b v s y x) (hJ : Jb w jb b nx lost) (hjb : ¬ Fd b v jb) (hlt : ∀ k, Fd b v k → k < w.heap.size) (hge : w.heap.size ≤ ge) (hgy : ge < y.heap.size) : JPost base b jb v s m lost w ((x.setCell ⟨ge, 0, none⟩ (.bool true)).setCell ⟨jb, 1, none⟩ (.int .u32 (m : Int))) := by
  obtain ⟨v', h1, h2, h3⟩ := hP
  have hj : jb < w.heap.size := Blk.lt hJ
  have hs := hbel.size
  have hn : ¬ Fd b v' jb := fun q => by
    rcases h3 jb q with q | q
    · exact hjb q
    · omega
  have hg : ¬ Fd b v' ge := fun q => by
    rcases h3 ge q with q | q
    · have := hlt ge q; omega
    · omega
  have hJx : Jb x jb b nx lost := Blk.only (Blk.below hJ hbel hj) h2 hjb
  have o0 : Only (fun k => k = ge) x (x.setCell ⟨ge, 0, none⟩ (.bool true)) := (Only.refl _ x).setCell _ _ (fun _ => rfl)
  have o1 : Only (fun k => k = jb) (x.setCell ⟨ge, 0, none⟩ (.bool true)) ((x.setCell ⟨ge, 0, none⟩ (.bool true)).setCell ⟨jb, 1, none⟩ (.int .u32 (m : Int))) := (Only.refl _ _).setCell _ _ (fun _ => rfl)
  refine ⟨v', (h1.only o0 (fun k hk q => hg (q ▸ hk))).only o1 (fun k hk q => hn (q ▸ hk)), ?_, ?_, fun k hk => ?_⟩
  · exact (Blk.only hJx o0 (fun q => by have q : jb = ge := q; omega)).set 1 (.int .u32 (m : Int))
  · have q1 : Only (fun k => Fd b v k ∨ k = jb) w y := (Only.of_below (P := fun _ => False) hbel).mono (fun _ _ q => q.elim)
    exact ((q1.trans h2 (fun _ _ q => .inl q)).trans o0 (fun k hk q => by have q : k = ge := q; omega)).trans o1 (fun _ _ q => .inr q)
  · rcases h3 k hk with q | q
    · exact .inl q
    · exact .inr (by omega)
theorem fin0 {w y : World} {base b jb nx : Nat} {v : DV} {s : DSt} {lost : Bool} (hbel : Below w.heap.size w y) (h : Dk w base b v s) (hJ : Jb w jb b nx lost) : JPost base b jb v s nx lost w y :=
  ⟨v, h.below hbel, Blk.below hJ hbel (Blk.lt hJ), (Only.of_below (P := fun _ => False) hbel).mono (fun _ _ q => q.elim), fun _ q => .inl q⟩
theorem secs_fit (l : List Wr1) (size : Int) (hs : size ≤ 1024) (h : l.any (freeP size) = false) : ∀ z ∈ secs (filled l), fitsP z 4 := fun z hz => by
  simp only [secs, filled, List.mem_map, List.mem_append] at hz
  obtain ⟨x, hx, rfl⟩ := hz
  rcases hx with hx | hx
  · have := List.any_eq_false.1 h x hx
    simp [freeP] at this
    exact fits4j _ (by omega) (by omega)
  · have := List.eq_of_mem_replicate hx
    rw [this]
    exact fits4j _ (by decide) (by decide)
theorem ref_zero (l : List Wr1) (size : Int) (h : refE l size = 0) : l.length ≤ 16 ∧ l.any (freeP size) = false ∧ (secs l).Nodup ∧ l.any longP = false := by
  unfold refE at h
  split at h
  · cases h
  · split at h
    · cases h
    · split at h
      · cases h
      · split at h
        · cases h
        · rename_i h1 h2 h3 h4
          exact ⟨by omega, by simpa using h2, by simpa using h3, by simpa using h4⟩
end Go.Proofs.YtkkndlkelpdehaaGreatDoor

namespace Go.Proofs.YtkkndlkelpdehaaGreatDoor
open Go.RowKit Go.Extern.Stop Go.Stop Go.Extern
/-! errors.As at the target *giveUp, of an error that is a giveUp: after the kit's worked toy 'toyas'. -/
theorem ea_valueOfP (t : Addr) (w : World) : (ReflectliteValue.unpack (.iface 194 (.pointer (some t)))).run Tryz.prog w
    = .ok (.agg #[.pointer (some ⟨2, 194, none⟩), .pointer (some ⟨w.heap.size, 0, none⟩), .int .u64 150]) (w.alloc (.cells #[.pointer (some t)] 194)) := by kernel_rfl
theorem ea_typeP (a : Addr) (w : World) : (ReflectliteValue.methodAny (ReflectliteValue.valueError "reflectlite.Value.Type" 0) (fun t _ _ _ => ReflectliteType.toType t) #[.agg #[.pointer (some ⟨2, 194, none⟩), .pointer (some a), .int .u64 150]]).run Tryz.prog w
    = .ok (.iface 210 (.agg #[.pointer (some ⟨2, 194, none⟩)])) w := by kernel_rfl
theorem ea_methodKind (h : Value) (w : World) : (Go.method 348 210 (.agg #[h]) "Kind").run Tryz.prog w = .ok (165, h) w := by kernel_rfl
theorem ea_kindP (w : World) : ((ReflectliteType.abiMethod fun t => (fun a : Nat => Value.int IntKind.u8 (a : Int)) <$> Rtype.kind t) #[.pointer (some ⟨2, 194, none⟩)]).run Tryz.prog w = .ok (.int .u8 22) w := by kernel_rfl
theorem ea_kindS (w : World) : ((ReflectliteType.abiMethod fun t => (fun a : Nat => Value.int IntKind.u8 (a : Int)) <$> Rtype.kind t) #[.pointer (some ⟨2, 185, none⟩)]).run Tryz.prog w = .ok (.int .u8 25) w := by kernel_rfl
theorem rlm (z : Sem Value) (f : TypeId → Addr → Nat → Nat → Sem Value) (v : Value) :
    ReflectliteValue.method z f #[v] = (do match ← ReflectliteValue.parts v with | none => z | some (t, a, fl) => f t a fl (fl % 32)) := rfl
theorem ea_partsP (a : Addr) (w : World) : (ReflectliteValue.parts (.agg #[.pointer (some ⟨2, 194, none⟩), .pointer (some a), .int .u64 150])).run Tryz.prog w = .ok (some (194, a, 150)) w := by kernel_rfl
theorem ea_isNilP (a p : Addr) (W : World) (ha : W.cell? a = some (.pointer (some p))) :
    (ReflectliteValue.method (ReflectliteValue.valueError "reflectlite.Value.IsNil" 0) ReflectliteValue.isNil #[.agg #[.pointer (some ⟨2, 194, none⟩), .pointer (some a), .int .u64 150]]).run Tryz.prog W = .ok (.bool false) W := by
  rw [rlm]
  simp only [Sem.run_bind, ea_partsP, Result.andThen]
  simp [ReflectliteValue.isNil, loadVar, isAgg, underlying, Tryz.underlying194, ha, Result.andThen]
theorem ea_methodElem (h : Value) (w : World) : (Go.method 348 210 (.agg #[h]) "Elem").run Tryz.prog w = .ok (178, .agg #[h]) w := by kernel_rfl
theorem ea_methodImplements (h : Value) (w : World) : (Go.method 348 210 (.agg #[h]) "Implements").run Tryz.prog w = .ok (179, .agg #[h]) w := by kernel_rfl
theorem ea_methodAssignableTo (h : Value) (w : World) : (Go.method 348 210 (.agg #[h]) "AssignableTo").run Tryz.prog w = .ok (176, .agg #[h]) w := by kernel_rfl
theorem ea_elemP (w : World) : (ReflectliteType.method ReflectliteType.elem #[.agg #[.pointer (some ⟨2, 194, none⟩)]]).run Tryz.prog w = .ok (.iface 210 (.agg #[.pointer (some ⟨2, 185, none⟩)])) w := by kernel_rfl
theorem ea_implementsS (w : World) : (ReflectliteType.relation "Implements" ReflectliteType.implements_ #[.agg #[.pointer (some ⟨2, 185, none⟩)], .iface 210 (.agg #[.pointer (some ⟨2, 116, none⟩)])]).run Tryz.prog w = .ok (.bool true) w := by kernel_rfl
theorem ea_typeOfS (v : Value) (w : World) : (ReflectliteType.typeOf #[.iface 185 v]).run Tryz.prog w = .ok (.iface 210 (.agg #[.pointer (some ⟨2, 185, none⟩)])) w := by kernel_rfl
theorem ea_assignableS (w : World) : (ReflectliteType.relation "AssignableTo" ReflectliteType.assignableTo #[.agg #[.pointer (some ⟨2, 185, none⟩)], .iface 210 (.agg #[.pointer (some ⟨2, 185, none⟩)])]).run Tryz.prog w = .ok (.bool true) w := by kernel_rfl
theorem ea_valueOfS (x : Int) (w : World) : (ReflectliteValue.unpack (.iface 185 (.agg #[.int .i64 x]))).run Tryz.prog w
    = .ok (.agg #[.pointer (some ⟨2, 185, none⟩), .pointer (some ⟨w.heap.size, 0, none⟩), .int .u64 153]) (w.alloc (.cells #[.int .i64 x] 185)) := by kernel_rfl
theorem ea_elemOfP (w : World) : (Rtype.elem? 194).run Tryz.prog w = .ok (some 185) w := by kernel_rfl
theorem ea_mkS (p : Addr) (w : World) : (ReflectliteValue.mk 185 p ReflectliteValue.flagAddr).run Tryz.prog w = .ok (.agg #[.pointer (some ⟨2, 185, none⟩), .pointer (some p), .int .u64 409]) w := by kernel_rfl
theorem ea_elemVP (a p : Addr) (W : World) (ha : W.cell? a = some (.pointer (some p))) :
    (ReflectliteValue.method (ReflectliteValue.valueError "reflectlite.Value.Elem" 0) ReflectliteValue.elem #[.agg #[.pointer (some ⟨2, 194, none⟩), .pointer (some a), .int .u64 150]]).run Tryz.prog W
      = .ok (.agg #[.pointer (some ⟨2, 185, none⟩), .pointer (some p), .int .u64 409]) W := by
  rw [rlm]
  simp only [Sem.run_bind, ea_partsP, Result.andThen]
  simp [ReflectliteValue.elem, loadVar, isAgg, underlying, Tryz.underlying194, ha, Result.andThen, ea_elemOfP, ea_mkS]
theorem rls (v x : Value) : ReflectliteValue.set #[v, x] = (do
    let (some (dst, a, fl), some (src, b, _)) := (← ReflectliteValue.parts v, ← ReflectliteValue.parts x)
      | unsupported (.noEntry "extern/(internal/reflectlite.Value).Set.zeroValue")
    if fl / ReflectliteValue.flagAddr % 2 == 0 then unsupported (.noEntry "extern/(internal/reflectlite.Value).Set.unaddressable")
    let val ← loadVar src b
    if ← Rtype.directlyAssignable dst src then storeVar dst a val
    else if ← Rtype.implements dst src then
      if (← Rtype.kind src) == 20 then
        match val with
        | .nilIface => unsupported (.noEntry "extern/reflectlite: a nil value of one interface type handed on as a value of another")
        | _ => storeVar dst a val
      else storeVar dst a (.iface src val)
    else panicString ("reflectlite.Set: value of type " ++ (← Rtype.spelt src) ++ " is not assignable to type " ++ (← Rtype.spelt dst))
    pure (.tuple #[])) := rfl
theorem ea_partsSa (a : Addr) (w : World) : (ReflectliteValue.parts (.agg #[.pointer (some ⟨2, 185, none⟩), .pointer (some a), .int .u64 409])).run Tryz.prog w = .ok (some (185, a, 409)) w := by kernel_rfl
theorem ea_partsS (a : Addr) (w : World) : (ReflectliteValue.parts (.agg #[.pointer (some ⟨2, 185, none⟩), .pointer (some a), .int .u64 153])).run Tryz.prog w = .ok (some (185, a, 153)) w := by kernel_rfl
theorem ea_directS (w : World) : (Rtype.directlyAssignable 185 185).run Tryz.prog w = .ok true w := by kernel_rfl
theorem ea_setS (ta b : Addr) (x : Int) (old : Value) (W : World) (hb : W.cell? b = some (.int .i64 x)) (ht : W.cell? ta = some old) (hf : W.frozen? ta = false) :
    (ReflectliteValue.set #[.agg #[.pointer (some ⟨2, 185, none⟩), .pointer (some ta), .int .u64 409], .agg #[.pointer (some ⟨2, 185, none⟩), .pointer (some b), .int .u64 153]]).run Tryz.prog W
      = .ok (.tuple #[]) (W.setCell ta (.int .i64 x)) := by
  rw [rls]
  simp only [Sem.run_bind, ea_partsSa, ea_partsS, Result.andThen]
  have hlv : (loadVar 185 b).run Tryz.prog W = .ok (.agg #[.int .i64 x]) W := by
    simp [loadVar, isAgg, underlying, Tryz.underlying185, Result.andThen, loadCells, loadCellsFrom, Addr.add, hb]
  simp [ReflectliteValue.flagAddr, hlv, Result.andThen, ea_directS, storeVar, Value.cells, storeCells, Addr.add]
  rw [run_store Tryz.prog W ta _ _ (by rfl)]
  simp [ht, hf]
end Go.Proofs.YtkkndlkelpdehaaGreatDoor

namespace Go.Proofs.YtkkndlkelpdehaaGreatDoor
open Go.RowKit Go.Extern.Stop Go.Stop Go.Extern
/-- What the laid variable errors.errorType gives. -/
def ETy (w : World) : Prop := w.cell? ⟨1, 0, none⟩ = some (.iface 210 (.agg #[.pointer (some ⟨2, 116, none⟩)]))
theorem ETy.lt {w : World} (h : ETy w) : 1 < w.heap.size := World.block_lt_of_cell? w _ h
theorem ETy.below {w w' : World} {B : Nat} (h : ETy w) (hb : Below B w w') (hB : 1 < B) : ETy w' := (hb.cell (p := ⟨1, 0, none⟩) hB).trans h
theorem ETy.only {w w' : World} {P : Nat → Prop} (h : ETy w) (ho : Only P w w') (hp : ¬ P 1) : ETy w' := (World.cell?_of_block (a := ⟨1, 0, none⟩) (ho.2 1 h.lt hp)).trans h
set_option maxRecDepth 100000 in
set_option maxHeartbeats 4000000 in
theorem as_hit (x : Int) (t : Addr) (old : Value) (w : World) (hg : ETy w) (ht0 : w.cell? t = some old) (hf0 : w.frozen? t = false) :
    Calls Tryz.prog 142 #[.iface 185 (.agg #[.int .i64 x]), .iface 194 (.pointer (some t))] w fun ev w' => ev = .returned (.bool true) ∧ w' = ((((w.alloc (.cells #[.pointer (some t)] 194)).alloc (.cells #[.pointer (some ⟨2, 194, none⟩), .pointer (some ⟨w.heap.size, 0, none⟩), .int .u64 150] 200)).alloc (.cells #[.pointer (some ⟨2, 194, none⟩), .pointer (some ⟨w.heap.size, 0, none⟩), .int .u64 150] 200)).alloc (.cells #[.int .i64 x] 185)).setCell t (.int .i64 x) := by
  have hVO := @run_callFunc_extern Tryz.prog 144 _ (fun args => ReflectliteValue.unpack (args.getD 0 (.tuple #[]))) Tryz.func144 (by kernel_rfl) (by kernel_rfl) (by kernel_rfl) (by kernel_rfl)
  have hTY := @run_callFunc_extern Tryz.prog 145 _ (ReflectliteValue.methodAny (ReflectliteValue.valueError "reflectlite.Value.Type" 0) (fun t _ _ _ => ReflectliteType.toType t)) Tryz.func145 (by kernel_rfl) (by kernel_rfl) (by kernel_rfl) (by kernel_rfl)
  have hNI := @run_callFunc_extern Tryz.prog 146 _ (ReflectliteValue.method (ReflectliteValue.valueError "reflectlite.Value.IsNil" 0) ReflectliteValue.isNil) Tryz.func146 (by kernel_rfl) (by kernel_rfl) (by kernel_rfl) (by kernel_rfl)
  have hKI := @run_callFunc_extern Tryz.prog 165 _ (ReflectliteType.abiMethod fun t => do pure (.int .u8 (← Rtype.kind t))) Tryz.func165 (by kernel_rfl) (by kernel_rfl) (by kernel_rfl) (by kernel_rfl)
  have hEL := @run_callFunc_extern Tryz.prog 178 _ (ReflectliteType.method ReflectliteType.elem) Tryz.func178 (by kernel_rfl) (by kernel_rfl) (by kernel_rfl) (by kernel_rfl)
  have hIM := @run_callFunc_extern Tryz.prog 179 _ (ReflectliteType.relation "Implements" ReflectliteType.implements_) Tryz.func179 (by kernel_rfl) (by kernel_rfl) (by kernel_rfl) (by kernel_rfl)
  have hTO := @run_callFunc_extern Tryz.prog 148 _ ReflectliteType.typeOf Tryz.func148 (by kernel_rfl) (by kernel_rfl) (by kernel_rfl) (by kernel_rfl)
  have hAT := @run_callFunc_extern Tryz.prog 176 _ (ReflectliteType.relation "AssignableTo" ReflectliteType.assignableTo) Tryz.func176 (by kernel_rfl) (by kernel_rfl) (by kernel_rfl) (by kernel_rfl)
  have hVE := @run_callFunc_extern Tryz.prog 149 _ (ReflectliteValue.method (ReflectliteValue.valueError "reflectlite.Value.Elem" 0) ReflectliteValue.elem) Tryz.func149 (by kernel_rfl) (by kernel_rfl) (by kernel_rfl) (by kernel_rfl)
  have hSE := @run_callFunc_extern Tryz.prog 150 _ ReflectliteValue.set Tryz.func150 (by kernel_rfl) (by kernel_rfl) (by kernel_rfl) (by kernel_rfl)
  have tO := ea_typeOfS
  have mA := ea_methodAssignableTo
  have a25 := ea_assignableS
  have v25 := ea_valueOfS
  have f6 := ea_valueOfP
  have f7 := ea_typeP
  have mK := ea_methodKind
  have mE := ea_methodElem
  have mI := ea_methodImplements
  have k27 := ea_kindP
  have k25 := ea_kindS
  have e27 := ea_elemP
  have i25 := ea_implementsS
  have n8 := ea_isNilP ⟨w.heap.size, 0, none⟩ t ((w.alloc (.cells #[.pointer (some t)] 194)).alloc (.cells #[.pointer (some ⟨2, 194, none⟩), .pointer (some ⟨w.heap.size, 0, none⟩), .int .u64 150] 200)) (by simp)
  have hlt : 1 < w.heap.size := hg.lt
  have hg2 : ((w.alloc (.cells #[.pointer (some t)] 194)).alloc (.cells #[.pointer (some ⟨2, 194, none⟩), .pointer (some ⟨w.heap.size, 0, none⟩), .int .u64 150] 200)).cell? ⟨1, 0, none⟩ = some (.iface 210 (.agg #[.pointer (some ⟨2, 116, none⟩)])) := by
    rw [World.cell?_alloc_lt _ _ ⟨1, 0, none⟩ (by simp <;> omega), World.cell?_alloc_lt _ _ ⟨1, 0, none⟩ hlt]; exact hg
  have htl : t.block < w.heap.size := World.block_lt_of_cell? w _ ht0
  have el := ea_elemVP ⟨w.heap.size, 0, none⟩ t (((w.alloc (.cells #[.pointer (some t)] 194)).alloc (.cells #[.pointer (some ⟨2, 194, none⟩), .pointer (some ⟨w.heap.size, 0, none⟩), .int .u64 150] 200)).alloc (.cells #[.pointer (some ⟨2, 194, none⟩), .pointer (some ⟨w.heap.size, 0, none⟩), .int .u64 150] 200)) (by rw [World.cell?_alloc_lt _ _ ⟨w.heap.size, 0, none⟩ (by simp; omega)]; simp)
  have st := ea_setS t ⟨w.heap.size + 1 + 1 + 1, 0, none⟩ x old ((((w.alloc (.cells #[.pointer (some t)] 194)).alloc (.cells #[.pointer (some ⟨2, 194, none⟩), .pointer (some ⟨w.heap.size, 0, none⟩), .int .u64 150] 200)).alloc (.cells #[.pointer (some ⟨2, 194, none⟩), .pointer (some ⟨w.heap.size, 0, none⟩), .int .u64 150] 200)).alloc (.cells #[.int .i64 x] 185))
    (by rw [World.cell?_alloc_at _ _ _ _ (by simp)]; rfl)
    (by rw [World.cell?_alloc_lt _ _ t (by simp; omega), World.cell?_alloc_lt _ _ t (by simp; omega), World.cell?_alloc_lt _ _ t (by simp; omega), World.cell?_alloc_lt _ _ t htl]; exact ht0)
    (by rw [World.frozen?_alloc_old _ _ t (by simp; omega), World.frozen?_alloc_old _ _ t (by simp; omega), World.frozen?_alloc_old _ _ t (by simp; omega), World.frozen?_alloc_old _ _ t (Nat.ne_of_lt htl)]; exact hf0)
  clear hg ht0 hf0
  go_enter Tryz.func142, Tryz.ntmps142
  go_wp2
  refine wp_loop_rounds 1 ?_
  rw [rounds_succ]
  go_wp2
  go_ret
  exact ⟨rfl, rfl⟩
end Go.Proofs.YtkkndlkelpdehaaGreatDoor
