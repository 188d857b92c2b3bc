import Derived.Test.YtffiaogbphgmgaaGreatDoorMz25
import Derived.Test.YtffiaogbphgmgaaGreatDoorMz28
import Derived.Test.YtffiaogbphgmgaaGreatDoorMz21
import Derived.Test.YtffiaogbphgmgaaGreatDoorMz22
import Derived.Test.YtffiaogbphgmgaaGreatDoorMz15
namespace Go.Proofs.YtffiaogbphgmgaaGreatDoor
open Go.RowKit
set_option maxRecDepth 100000
/-- k writes of acts' first run are done; its two lists have as many. -/
def AcI (w : World) (base b : Nat) (v : RV) (s : DSt) (L F : List Wr1) (k : Nat) (vp vd : Value) (wr : World) : Prop :=
  ∃ v' sk, Rk wr base b v' sk ∧ Sane sk ∧ Coh sk ∧ layR s L = layR sk (L.drop k) ∧ Only (Fr4 b v) w wr ∧ (∀ x, Fr4 b v' x → Fr4 b v x ∨ w.heap.size ≤ x) ∧ sk.pend.length ≤ s.pend.length + k ∧ sk.acts.length ≤ s.acts.length + k ∧ sk.last.length = s.last.length ∧
    ∃ p c q d, vp = .slice p k c ∧ vd = .slice q k d ∧ wr.ownsRow w.heap.size 3 1 (.slice p k c) k ((secs (F.take k)).map (Value.int .i64)) ∧ wr.ownsRow w.heap.size 9 1 (.slice q k d) k (strs ((F.take k).map (·.2))) ∧ ∀ g, (Value.slice q k d).ownBlock = some g → ¬ Fr4 b v' g
theorem ft3 : FT 3 := by unfold FT; decide
theorem writeS_lastX (s : DSt) (i : Int) (t : ByteArray) : (writeS s i t).last = s.last := by
  unfold writeS
  split
  · split
    · split
      · exact diesS_last s
      · exact diesS_last s
    · rfl
  · rfl
/-- the first list has grown -/
theorem ac_one {wo wo2 y1 : World} {base b N k : Nat} {v' : RV} {sk : DSt} {p q : Option Addr} {c d : Nat} {xs ys : List Value} (hR : Rk wo base b v' sk) (hvp : wo.ownsRow N 3 1 (.slice p k c) k xs) (hvd : wo.ownsRow N 9 1 (.slice q k d) k ys) (b1 : Below wo.heap.size wo wo2) (hg1 : Only (fun g => (Value.slice p k c).ownBlock = some g) wo2 y1) :
    Rk y1 base b v' sk ∧ y1.ownsRow N 9 1 (.slice q k d) k ys ∧ Only (fun g => (Value.slice p k c).ownBlock = some g) wo y1 := by
  have hO : Only (fun g => (Value.slice p k c).ownBlock = some g) wo y1 := (Only.of_below b1).trans hg1 (fun _ _ q => q)
  refine ⟨hR.only hO (fun g hg e => ?_), owns_only hvd hO (fun g hg e => ?_), hO⟩
  · obtain ⟨cur, hB⟩ := own_blk hvp e
    exact hR.noty hB ft3 hg
  · obtain ⟨cur, hB⟩ := own_blk hvp e
    obtain ⟨cur2, hB2⟩ := own_blk hvd hg
    exact absurd (blk_ty hB hB2) (by decide)
/-- and the second -/
theorem ac_two {y1 y2 y3 : World} {base b N k k' : Nat} {v' : RV} {sk : DSt} {p q : Option Addr} {c d g2 : Nat} {xs ys : List Value} (hR : Rk y1 base b v' sk) (hvp : y1.ownsRow N 3 1 (.slice p k' c) k' xs) (hvd : y1.ownsRow N 9 1 (.slice q k d) k ys) (hnd : ∀ g, (Value.slice q k d).ownBlock = some g → ¬ Fr4 b v' g) (b2 : Below y1.heap.size y1 y2) (hg2 : Only (fun g => (Value.slice q k d).ownBlock = some g) y2 y3) (hor : (Value.slice q k d).ownBlock = some g2 ∨ g2 = y2.heap.size) :
    Rk y3 base b v' sk ∧ y3.ownsRow N 3 1 (.slice p k' c) k' xs ∧ ¬ Fr4 b v' g2 ∧ Only (fun g => (Value.slice q k d).ownBlock = some g) y1 y3 := by
  have hO : Only (fun g => (Value.slice q k d).ownBlock = some g) y1 y3 := (Only.of_below b2).trans hg2 (fun _ _ q => q)
  refine ⟨hR.only hO (fun g hg e => hnd g e hg), owns_only hvp hO (fun g hg e => ?_), ?_, hO⟩
  · obtain ⟨cur, hB⟩ := own_blk hvd e
    obtain ⟨cur2, hB2⟩ := own_blk hvp hg
    exact absurd (blk_ty hB hB2) (by decide)
  · rcases hor with e | e
    · exact hnd g2 e
    · intro hf
      have := hR.frT g2 hf
      have := b2.size
      omega
theorem ac_only {w wo y1 y3 : World} {b k : Nat} {v : RV} {p q : Option Addr} {c d : Nat} {xs ys : List Value} (hO : Only (Fr4 b v) w wo) (hvp : wo.ownsRow w.heap.size 3 1 (.slice p k c) k xs) (hvd : y1.ownsRow w.heap.size 9 1 (.slice q k d) k ys) (o1 : Only (fun g => (Value.slice p k c).ownBlock = some g) wo y1) (o2 : Only (fun g => (Value.slice q k d).ownBlock = some g) y1 y3) : Only (Fr4 b v) w y3 :=
  (hO.trans o1 (fun g hg e => by have := (hvp.lt g e).1; omega)).trans o2 (fun g hg e => by have := (hvd.lt g e).1; omega)
theorem take_snocF {F : List Wr1} {k : Nat} {z : Int} {t : ByteArray} (hk : k < F.length) (hz : F.getD k wr0 = (z, t)) : F.take (k + 1) = F.take k ++ [(z, t)] := by
  rw [List.take_add_one, ← hz, List.getD_eq_getElem?_getD, List.getElem?_eq_getElem hk]
  rfl
/-- behind one write more -/
theorem AcI.next {w : World} {base b : Nat} {v v' : RV} {s sk : DSt} {L F : List Wr1} {k : Nat} {y3 y4 : World} {g1 c1 g2 c2 : Nat} {z i : Int} {t : ByteArray} (hSs : Sane sk) (hC : Coh sk) (hE : layR s L = layR sk (L.drop k)) (hO3 : Only (Fr4 b v) w y3) (hF : ∀ x, Fr4 b v' x → Fr4 b v x ∨ w.heap.size ≤ x) (hp : sk.pend.length ≤ s.pend.length + k) (ha : sk.acts.length ≤ s.acts.length + k) (hla : sk.last.length = s.last.length)
    (hR3 : Rk y3 base b v' sk) (ho1 : y3.ownsRow w.heap.size 3 1 (.slice (some ⟨g1, 0, none⟩) (k + 1) c1) (k + 1) (((secs (F.take k)).map (Value.int .i64)) ++ [.int .i64 z])) (ho2 : y3.ownsRow w.heap.size 9 1 (.slice (some ⟨g2, 0, none⟩) (k + 1) c2) (k + 1) ((strs ((F.take k).map (·.2))) ++ [.string t])) (hn2 : ¬ Fr4 b v' g2) (hP : RPst base b v' (writeS sk i t) y3 y4) (he : layR sk (L.drop k) = layR (writeS sk i t) (L.drop (k + 1))) (hk : k < F.length) (hz : F.getD k wr0 = (z, t)) :
    AcI w base b v s L F (k + 1) (.slice (some ⟨g1, 0, none⟩) (k + 1) c1) (.slice (some ⟨g2, 0, none⟩) (k + 1) c2) y4 := by
  have g1n : ∀ g, (Value.slice (some ⟨g1, 0, none⟩) (k + 1) c1).ownBlock = some g → ¬ Fr4 b v' g := fun g e => by
    obtain ⟨cur, hB⟩ := own_blk ho1 e
    exact hR3.noty hB ft3
  have g2n : ∀ g, (Value.slice (some ⟨g2, 0, none⟩) (k + 1) c2).ownBlock = some g → g = g2 := fun g e => by simpa [Value.ownBlock] using e.symm
  have l2 : g2 < y3.heap.size := (ho2.lt g2 rfl).2
  obtain ⟨v2, k1, k2, k3⟩ := hP
  have hpg := pend_grow sk i t
  have hag := acts_grow sk i t
  obtain ⟨v3, k1', k2', k3'⟩ := RPst.trans hO3 hF ⟨v2, k1, k2, k3⟩
  have et := take_snocF hk hz
  refine ⟨v2, writeS sk i t, k1, hSs.write i t, hC.write i t, by rw [hE, he], k2', fun x hx => ?_, by omega, by omega, by rw [writeS_lastX]; exact hla, _, _, _, _, rfl, rfl, ?_, ?_, fun g e => ?_⟩
  · rcases k3 x hx with q | q
    · exact hF x q
    · exact .inr (Nat.le_trans hO3.size q)
  · have := owns_only ho1 k2 (fun g hg e => g1n g hg e)
    rw [et]
    simpa [secs] using this
  · have := owns_only ho2 k2 (fun g hg e => hn2 (by rw [← g2n g hg]; exact e))
    rw [et]
    simpa [strs] using this
  · rw [g2n g e]
    intro hf
    rcases k3 g2 hf with q | q
    · exact hn2 q
    · omega
/-- the last two runs -/
theorem runs_sec (s : DSt) (n : Nat) (L : List Wr1) : runsR s [L, [(1, headB n [])]] = secR s n L := by
  rw [runsR, secR]
  by_cases h : (layR s L).1 = 0
  · rw [if_pos h, if_pos h, runsR]
    by_cases q : (layR (layR s L).2 [(1, headB n [])]).1 = 0
    · rw [if_pos q, runsR]
      exact Prod.ext q.symm rfl
    · rw [if_neg q]
  · rw [if_neg h, if_neg h]
theorem ref0 {l : List Wr1} {size : Int} (h : refE l size = 0) : l.length ≤ 16 ∧ ∀ x ∈ l, 19 ≤ x.1 ∧ x.1 < size := by
  unfold refE at h
  split at h
  · omega
  · rename_i h1
    split at h
    · omega
    · rename_i h2
      refine ⟨by omega, fun x hx => ?_⟩
      have h3 : l.any (freeP size) = false := by simpa using h2
      have h4 := List.any_eq_false.1 h3 x hx
      simpa [freeP] using h4
theorem fill_mem {l : List Wr1} {size : Int} (h : refE l size = 0) (hs : size ≤ 1024) : ∀ z ∈ secs (filled l), 0 ≤ z ∧ z < 4294967296 := by
  intro z hz
  obtain ⟨x, hx, rfl⟩ := List.mem_map.1 hz
  rcases List.mem_append.1 hx with q | q
  · have := (ref0 h).2 x q
    omega
  · rw [List.eq_of_mem_replicate q]
    exact ⟨by decide, by decide⟩
end Go.Proofs.YtffiaogbphgmgaaGreatDoor
