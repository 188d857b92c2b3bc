import Derived.Test.YtpcmifmgkccfnaaGreatDoorMv25
import Derived.Test.YtpcmifmgkccfnaaGreatDoorMv00
import Derived.Test.YtpcmifmgkccfnaaGreatDoorCards
import Derived.Test.YtpcmifmgkccfnaaGreatDoorTie
import Derived.ProofKit
import Derived.OpenShut
import Derived.ShutString
import Derived.SizedLaws
import Derived.Deep.DeepHandedRow
import Derived.LaidLaws
import Derived.LaidHandle
import Derived.Lib.LaidTab
import Derived.Deep.Slices
import Derived.Deep.Strs
import Derived.Lib.SmallJoins
namespace Go.Proofs.YtpcmifmgkccfnaaGreatDoor
open Go.RowKit
theorem RPst.belowL {w w1 w2 : World} {base b : Nat} {v : RV} {s : DSt} (hb : Below w.heap.size w w1) (h : RPst base b v s w1 w2) : RPst base b v s w w2 := by
  obtain ⟨v1, h1, h2, h3⟩ := h
  refine ⟨v1, h1, (Only.of_below (P := fun _ => False) hb |>.mono (fun _ _ q => q.elim)).trans h2 (fun _ _ q => q), fun k hk => ?_⟩
  rcases h3 k hk with q | q
  · exact .inl q
  · have := hb.size
    exact .inr (by omega)
set_option maxRecDepth 100000 in
set_option maxHeartbeats 1000000 in
/-- The document's Format. -/
theorem rformat_any (w : World) (base b : Nat) (v : RV) (s : DSt) (h : Rk w base b v s) (hb : base ≤ w.heap.size) (hS : Sane s) (hC : Coh s) (hp : s.pend.length ≤ 1000000) (ha : s.acts.length ≤ 100000000) :
    Calls Tryz.prog 7 #[.pointer (some ⟨b, 0, none⟩)] w fun e w' => e = .returned (.int .i64 (layR s [(1, headB 0 [])]).1) ∧ RPst base b v (layR s [(1, headB 0 [])]).2 w w' := by
  have HCL := hide (rclear_any 0 (by decide) 0 rfl w)
  have HD := hide h
  have HS := hide hS
  have HC := hide hC
  obtain ⟨hc, hhc⟩ : ∃ x, headB 0 [] = x := ⟨_, rfl⟩
  rw [hhc] at HCL ⊢
  clear h hS hC hhc
  go_enter Tryz.func7, Tryz.ntmps7
  go_wp2_with fail
  refine (unhide HCL).mono ?_
  rintro e x1 ⟨rfl, hb1⟩
  have HB1 := hide hb1
  have HWR := hide (rwrite_any x1 base b v s ((unhide HD).below hb1) (Nat.le_trans hb hb1.size) (unhide HS) (unhide HC) (by omega) (by omega) 1 hc)
  clear hb1 HCL
  go_wp2_with fail
  refine (unhide HWR).mono ?_
  rintro e x2 ⟨rfl, hP2⟩
  have HP2 := hide hP2
  have hpg := pend_grow s 1 hc
  have hag := acts_grow s 1 hc
  clear hP2 HWR
  by_cases he : writeE s 1 hc = 0
  · rw [he]
    have HE := hide (show layR s [(1, hc)] = (flushE (writeS s 1 hc), flushS (writeS s 1 hc)) from by rw [layR, if_pos he, layR])
    obtain ⟨v2, k1, k2, k3⟩ := unhide HP2
    have HFL := hide (rflush_any x2 base b v2 (writeS s 1 hc) k1 (Nat.le_trans hb (Nat.le_trans (unhide HB1).size k2.size)) ((unhide HS).write 1 hc) ((unhide HC).write 1 hc) (by omega) (by omega))
    have HK := hide (And.intro k2 k3)
    clear k1 k2 k3 he hpg hag
    go_wp2_with fail
    refine (unhide HFL).mono ?_
    rintro e x3 ⟨rfl, hP3⟩
    have HP3 := hide (RPst.belowL (unhide HB1) (RPst.trans (unhide HK).1 (unhide HK).2 hP3))
    clear hP3 HFL
    go_wp2
    go_ret
    rw [unhide HE]
    exact ⟨rfl, unhide HP3⟩
  · have HE := hide (show layR s [(1, hc)] = (writeE s 1 hc, writeS s 1 hc) from by rw [layR, if_neg he])
    have he' : (writeE s 1 hc == 0) = false := by simpa using he
    have HP3 := hide (RPst.belowL (unhide HB1) (unhide HP2))
    generalize writeE s 1 hc = er at *
    clear he hpg hag
    go_wp2
    go_ret
    rw [unhide HE]
    exact ⟨rfl, unhide HP3⟩
end Go.Proofs.YtpcmifmgkccfnaaGreatDoor

namespace Go.Proofs.YtpcmifmgkccfnaaGreatDoor
open Go.ChangeShapes Go.WideShapes Go.ChangeAt Go.RowKit
theorem own : ownKnob Tryz.prog.godebug = none := by kernel_rfl
theorem laidOut : laidOutB Tryz.prog = true := by kernel_rfl
theorem gEt : Tryz.prog.globalNamed "errors.errorType" = some 1 := by kernel_rfl
theorem gRt : (Tryz.prog.cutTypes.find? (·.1 == "internal/reflectlite.rtype")).map (·.2) = some 276 := by kernel_rfl
theorem gOne : ((List.range 318).filter fun t => Tryz.prog.rowNamed t [101, 114, 114, 111, 114]) = [179] := by kernel_rfl
theorem gSize : Tryz.prog.types.size = 318 := by kernel_rfl
def laidL : List (String × DataW Unit) := [("errors.errorType", Rows.laid_errors_errorType)]
/-- What the row's list gives. -/
theorem ety_of {W : World} (h : laidMetH Tryz.prog laidL W) : ETy W := by
  have h' : laidMet Tryz.prog [] W ∧ handlesMet Tryz.prog laidL W := h
  obtain ⟨name, u, ty, e1, e2, e3, e4, e5⟩ := h'.2 _ (List.mem_singleton.2 rfl)
  have en : name = [101, 114, 114, 111, 114] := (Option.some.inj e1).symm
  subst en
  obtain rfl := Option.some.inj (gRt.symm.trans e2)
  have hm : ty ∈ (List.range 318).filter fun t => Tryz.prog.rowNamed t [101, 114, 114, 111, 114] := List.mem_filter.2 ⟨List.mem_range.2 (by rw [← gSize]; exact e3), e4⟩
  rw [gOne] at hm
  obtain rfl := List.mem_singleton.1 hm
  have hh : typeHandle Tryz.prog 179 = .pointer (some ⟨2, 179, none⟩) := by kernel_rfl
  rw [hh] at e5
  have := World.var?_cell gEt e5 0
  unfold ETy
  simpa using this
/-- A world for the witness: the settled one, the variable's cell laid. -/
noncomputable def laidWorld (os : Os) : World :=
  let w0 := World.holding Tryz.prog os ⟨#[], #[], []⟩
  { w0 with heap := w0.heap.modify 1 fun
      | .cells _ t frozen => .cells #[.iface 276 (.agg #[.pointer (some ⟨2, 179, none⟩)])] t frozen
      | o => o }
end Go.Proofs.YtpcmifmgkccfnaaGreatDoor
