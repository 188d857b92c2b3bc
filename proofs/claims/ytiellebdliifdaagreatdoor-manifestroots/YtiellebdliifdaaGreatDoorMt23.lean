import Derived.Test.YtiellebdliifdaaGreatDoorMt22
import Derived.Test.YtiellebdliifdaaGreatDoorMt21
import Derived.Test.YtiellebdliifdaaGreatDoorMt11
import Derived.Deep.AppendLies
import Derived.ScopeJumps
import Derived.Test.YtiellebdliifdaaGreatDoorMt10
namespace Go.Proofs.YtiellebdliifdaaGreatDoor
open Go.RowKit Go.Maps Go.Sort Go.Shelf
theorem nodup_sub : ∀ (a b : List Int), a.Nodup → (∀ x ∈ a, x ∈ b) → a.length ≤ b.length
 | [], _, _, _ => Nat.zero_le _
 | x :: r, b, h, hs => by
  obtain ⟨h1, h2⟩ := List.nodup_cons.1 h
  have hx := hs x (by simp)
  have ih := nodup_sub r (b.erase x) h2 (fun y hy => by
   have hne : y ≠ x := fun e => h1 (by rw [← e]; exact hy)
   exact (List.mem_erase_of_ne hne).2 (hs y (by simp [hy])))
  rw [List.length_erase_of_mem hx] at ih
  have := List.length_pos_of_mem hx
  simp only [List.length_cons]
  omega
theorem PK.srt {w0 w : World} {b jb pb : Nat} {S : PS} {X : Nat → Prop} (K : PK w0 w b jb pb S X) : Srt S.tx := by
 obtain ⟨bw, bv, ov, K⟩ := K
 exact K.tx.2
end Go.Proofs.YtiellebdliifdaaGreatDoor
namespace Go.Proofs.YtiellebdliifdaaGreatDoor
open Go.RowKit Go.Maps Go.Sort Go.Shelf
theorem tx_few {tx : Tx} {a n : Nat} (hs : Srt tx) (hn : n ≤ 1024) (h : ∀ p ∈ tx, (a : Int) ≤ p.1 ∧ p.1 < (a : Int) + (pgs n : Int)) : tx.length ≤ 4 := by
 have h1 : (tx.map (·.1)).Nodup := List.pairwise_map.2 (hs.imp (fun q => by omega))
 have h2 := nodup_sub (tx.map (·.1)) ((List.range 4).map fun i => ((a + i : Nat) : Int)) h1 (fun x hx => by
  obtain ⟨p, hp, rfl⟩ := List.mem_map.1 hx
  obtain ⟨q1, q2⟩ := h p hp
  have := pgs_le hn
  exact List.mem_map.2 ⟨(p.1 - (a : Int)).toNat, List.mem_range.2 (by omega), by omega⟩)
 simpa using h2
structure BG (w0 w : World) (b jb pb mb : Nat) (X : Nat → Prop) (a n : Nat) (S : PS) (L : List ByteArray) (A : List (Nat × Nat)) (hn : Nat) (Mw Mn : List ByteArray) (T : Nat → Bool) : Prop where
 pk : PK w0 w b jb pb S X
 mp : MB w mb pb a n
 xm : X mb
 ety : ETy w0
 seen : Seen S L A hn Mw Mn
 ms : MS Mn a n T
 lo : 19 ≤ a
 hi : a + pgs n ≤ 128
 n1 : 1 ≤ n
 n2 : n ≤ 1024
theorem BG.next {w0 w : World} {b jb pb mb : Nat} {X : Nat → Prop} {a n : Nat} {S : PS} {L : List ByteArray} {A : List (Nat × Nat)} {hn : Nat} {Mw Mn : List ByteArray} {T : Nat → Bool} (h : BG w0 w b jb pb mb X a n S L A hn Mw Mn T) {w' : World} {S' : PS} {L' : List ByteArray} {A' : List (Nat × Nat)} {hn' : Nat} {Mw' Mn' : List ByteArray} {T' : Nat → Bool} (K : PK w0 w' b jb pb S' X) (ho : Only (fun x => ¬ X x) w w') (hs : Seen S' L' A' hn' Mw' Mn') (hm : MS Mn' a n T') : BG w0 w' b jb pb mb X a n S' L' A' hn' Mw' Mn' T' :=
 ⟨K, h.mp.only ho (fun q => q h.xm), h.xm, h.ety, hs, hm, h.lo, h.hi, h.n1, h.n2⟩
theorem BG.below {w0 w : World} {b jb pb mb : Nat} {X : Nat → Prop} {a n : Nat} {S : PS} {L : List ByteArray} {A : List (Nat × Nat)} {hn : Nat} {Mw Mn : List ByteArray} {T : Nat → Bool} (h : BG w0 w b jb pb mb X a n S L A hn Mw Mn T) {w' : World} (hb : Below w.heap.size w w') : BG w0 w' b jb pb mb X a n S L A hn Mw Mn T :=
 ⟨h.pk.below hb, h.mp.below hb, h.xm, h.ety, h.seen, h.ms, h.lo, h.hi, h.n1, h.n2⟩
theorem BG.more {w0 w : World} {b jb pb mb : Nat} {X : Nat → Prop} {a n : Nat} {S : PS} {L : List ByteArray} {A : List (Nat × Nat)} {hn : Nat} {Mw Mn : List ByteArray} {T : Nat → Bool} (h : BG w0 w b jb pb mb X a n S L A hn Mw Mn T) {w' : World} {Y : Nat → Prop} (hb : Below w.heap.size w w') (hy : ∀ x, Y x → X x ∨ (w.heap.size ≤ x ∧ x < w'.heap.size)) (hm : Y mb) : BG w0 w' b jb pb mb Y a n S L A hn Mw Mn T :=
 ⟨h.pk.more hb hy, h.mp.below hb, hm, h.ety, h.seen, h.ms, h.lo, h.hi, h.n1, h.n2⟩
theorem BG.less {w0 w : World} {b jb pb mb : Nat} {X : Nat → Prop} {a n : Nat} {S : PS} {L : List ByteArray} {A : List (Nat × Nat)} {hn : Nat} {Mw Mn : List ByteArray} {T : Nat → Bool} (h : BG w0 w b jb pb mb X a n S L A hn Mw Mn T) {Y : Nat → Prop} (hy : ∀ x, Y x → X x) (hm : Y mb) : BG w0 w b jb pb mb Y a n S L A hn Mw Mn T := h.more (Below.refl _ _) (fun x q => .inl (hy x q)) hm
theorem BG.poke {w0 w : World} {b jb pb mb : Nat} {X : Nat → Prop} {a n : Nat} {S : PS} {L : List ByteArray} {A : List (Nat × Nat)} {hn : Nat} {Mw Mn : List ByteArray} {T : Nat → Bool} (h : BG w0 w b jb pb mb X a n S L A hn Mw Mn T) {w' : World} {Y P : Nat → Prop} (ho : Only P w w') (hP : ∀ x, P x → x < w.heap.size → X x) (hlo : ∀ x, P x → w0.heap.size ≤ x) (hy : ∀ x, Y x → X x ∨ (w.heap.size ≤ x ∧ x < w'.heap.size)) (hm : Y mb) (hpm : ¬ P mb) : BG w0 w' b jb pb mb Y a n S L A hn Mw Mn T :=
 ⟨h.pk.poke ho hP hlo hy, h.mp.only ho hpm, hm, h.ety, h.seen, h.ms, h.lo, h.hi, h.n1, h.n2⟩
theorem BG.srt {w0 w : World} {b jb pb mb : Nat} {X : Nat → Prop} {a n : Nat} {S : PS} {L : List ByteArray} {A : List (Nat × Nat)} {hn : Nat} {Mw Mn : List ByteArray} {T : Nat → Bool} (h : BG w0 w b jb pb mb X a n S L A hn Mw Mn T) : Srt S.tx := by
 obtain ⟨bw, bv, ov, K⟩ := h.pk
 exact K.tx.2
theorem BG.t16 {w0 w : World} {b jb pb mb : Nat} {X : Nat → Prop} {a n : Nat} {S : PS} {L : List ByteArray} {A : List (Nat × Nat)} {hn : Nat} {Mw Mn : List ByteArray} {T : Nat → Bool} (h : BG w0 w b jb pb mb X a n S L A hn Mw Mn T) : S.tx.length ≤ 16 := by
 obtain ⟨bw, bv, ov, K⟩ := h.pk
 exact K.t16
theorem BG.tok {w0 w : World} {b jb pb mb : Nat} {X : Nat → Prop} {a n : Nat} {S : PS} {L : List ByteArray} {A : List (Nat × Nat)} {hn : Nat} {Mw Mn : List ByteArray} {T : Nat → Bool} (h : BG w0 w b jb pb mb X a n S L A hn Mw Mn T) : ∀ p ∈ S.tx, 19 ≤ p.1 ∧ p.1 < 128 ∧ p.2.size = 256 := by
 obtain ⟨bw, bv, ov, K⟩ := h.pk
 have := K.tok
 rw [h.seen.rst.s, show (rs L A).last = L from rfl, h.seen.len] at this
 exact this
theorem BG.size {w0 w : World} {b jb pb mb : Nat} {X : Nat → Prop} {a n : Nat} {S : PS} {L : List ByteArray} {A : List (Nat × Nat)} {hn : Nat} {Mw Mn : List ByteArray} {T : Nat → Bool} (h : BG w0 w b jb pb mb X a n S L A hn Mw Mn T) : w0.heap.size ≤ w.heap.size := h.pk.bel.size
def Tk (S' S : PS) : Prop := S'.tx = S.tx ∧ S'.keep = S.keep
theorem Tk.trans {S1 S2 S3 : PS} (h : Tk S1 S2) (k : Tk S2 S3) : Tk S1 S3 := ⟨h.1.trans k.1, h.2.trans k.2⟩
theorem Tk.refl (S : PS) : Tk S S := ⟨rfl, rfl⟩
def Kept (w0 w : World) (b jb pb mb : Nat) (X : Nat → Prop) (a n : Nat) (S : PS) (L : List ByteArray) (A : List (Nat × Nat)) (hn : Nat) (Mw Mn : List ByteArray) (T : Nat → Bool) (w' : World) : Prop :=
 ∃ S', BG w0 w' b jb pb mb X a n S' L A hn Mw Mn T ∧ S'.op = S.op ∧ Tk S' S ∧ Only (fun x => ¬ X x) w w'
theorem BG.read {w0 w : World} {b jb pb mb : Nat} {X : Nat → Prop} {a n : Nat} {S : PS} {L : List ByteArray} {A : List (Nat × Nat)} {hn : Nat} {Mw Mn : List ByteArray} {T : Nat → Bool} (h : BG w0 w b jb pb mb X a n S L A hn Mw Mn T) (k : Nat) (hk : k < pgs n) : ∃ bd, Pg n T k bd (Mn.getD (a + k) ByteArray.empty) ∧ Calls Tryz.prog 119 #[.pointer (some ⟨mb, 0, none⟩), .int .i64 (k : Int)] w fun e w' => e = .returned (.tuple #[.string bd, .int .i64 0]) ∧ Kept w0 w b jb pb mb X a n S L A hn Mw Mn T w' := by
 have h4 := pgs_le h.n2
 have hlo := h.lo
 have hhi := h.hi
 obtain ⟨bd, hp⟩ := h.ms k hk
 refine ⟨bd, hp, ?_⟩
 obtain ⟨r1, r2, r3, r4, r5⟩ := h.seen.read (a + k) (by omega) (by omega)
 have hsz : (Mn.getD (a + k) ByteArray.empty).size = 256 := by rw [hp.2.1]; exact pgT_size k (by omega) bd hp.1
 obtain ⟨q1, q2⟩ := bd_page k (by omega) bd hp.1
 rw [← hp.2.1] at q1 q2
 have e1 : rdE S (a + k) k = 0 := by rw [rdE, r2, if_pos rfl, r1, if_pos q1]
 have e2 : rdT S (a + k) k = bd := by rw [rdT, r2, if_pos rfl, r1, q2]
 have hc := mread_any h.pk h.mp h.xm h.ety (by omega) k (by omega) (readT_rest h.seen.rst (a + k) (by rw [h.seen.len]; omega) h.seen.siz) (by rw [r1, hsz]; decide)
 rw [e1, e2] at hc
 refine hc.mono ?_
 rintro e w' ⟨rfl, K, ho⟩
 exact ⟨rfl, _, h.next K ho r3 h.ms, r4, ⟨r5, (read_rest h.seen.rst (a + k) (by rw [h.seen.len]; omega)).2.2.2.2⟩, ho⟩
end Go.Proofs.YtiellebdliifdaaGreatDoor
namespace Go.Proofs.YtiellebdliifdaaGreatDoor
open Go.RowKit Go.Maps Go.Sort Go.Shelf
theorem mused_any {w0 w : World} {b jb pb mb : Nat} {X : Nat → Prop} {a n : Nat} {S : PS} {L : List ByteArray} {A : List (Nat × Nat)} {hn : Nat} {Mw Mn : List ByteArray} {T : Nat → Bool} (h : BG w0 w b jb pb mb X a n S L A hn Mw Mn T) (i : Nat) (hi : i < n) : Calls Tryz.prog 93 #[.pointer (some ⟨mb, 0, none⟩), .int .i64 (i : Int)] w fun e w' => e = .returned (.tuple #[.bool (T i), .int .i64 0]) ∧ Kept w0 w b jb pb mb X a n S L A hn Mw Mn T w' := by
 have hn2 := h.n2
 have HH := hide (mhas_any h.mp (i : Int))
 rw [decide_eq_true (show (0 : Int) ≤ (i : Int) by omega), decide_eq_true (show (i : Int) < (n : Int) by omega)] at HH
 obtain ⟨bd, hp, hc⟩ := h.read (i / 256) (pgs_lt hi)
 have HP := hide (fun W => pageOf_any i (by omega) W)
 have HC := hide hc
 have HTK := hide (fun W => isTaken_any bd hp.1 i (by omega) W)
 rw [hp.bit i hi rfl] at HTK
 clear hc hp h
 generalize i / 256 = ik at *
 generalize T i = ti at *
 go_enter Tryz.func93, Tryz.ntmps93
 go_wp2_with (first
  | (go_at_call 122; refine (unhide HH).mono ?_; rintro e w' ⟨rfl, hw'⟩; subst w')
  | (go_at_call 124; refine (unhide HP _).mono ?_; rintro e w' ⟨rfl, hw'⟩; subst w'))
 refine (unhide HC).mono ?_
 rintro e x1 ⟨rfl, hK⟩
 have HK := hide hK
 clear hK HC HH
 go_wp2_with (go_at_call 125; refine (unhide HTK _).mono ?_; rintro e x2 ⟨rfl, hb2⟩)
 go_ret2
 obtain ⟨S', k1, k2, k3, k4⟩ := unhide HK
 exact ⟨rfl, S', k1.below hb2, k2, k3, k4.trans (Only.of_below (P := fun x => ¬ X x) hb2) (fun _ _ q => q)⟩
end Go.Proofs.YtiellebdliifdaaGreatDoor
namespace Go.Proofs.YtiellebdliifdaaGreatDoor
open Go.RowKit Go.Maps Go.Sort Go.Shelf
def Turned (w0 w : World) (b jb pb mb : Nat) (X : Nat → Prop) (a n : Nat) (S : PS) (L : List ByteArray) (A : List (Nat × Nat)) (hn : Nat) (Mw : List ByteArray) (T : Nat → Bool) (p : Nat) (w' : World) : Prop :=
 ∃ S' Mn', BG w0 w' b jb pb mb X a n S' L A hn Mw Mn' (flp T p) ∧ S'.op = true ∧ ((∃ t : ByteArray, t.size = 256 ∧ S'.tx = txPut ((a + p / 256 : Nat) : Int) t S.tx) ∧ S'.keep = S.keep) ∧ Only (fun x => ¬ X x) w w'
theorem BG.turn {w0 w : World} {b jb pb mb : Nat} {X : Nat → Prop} {a n : Nat} {S : PS} {L : List ByteArray} {A : List (Nat × Nat)} {hn : Nat} {Mw Mn : List ByteArray} {T : Nat → Bool} (h : BG w0 w b jb pb mb X a n S L A hn Mw Mn T) (ho : S.op = true) (p : Nat) (hp : p < n) (bd : ByteArray) (hpg : Pg n T (p / 256) bd (Mn.getD (a + p / 256) ByteArray.empty)) (hr : roomB S ((a + p / 256 : Nat) : Int) = true) :
  Calls Tryz.prog 126 #[.pointer (some ⟨mb, 0, none⟩), .string bd, .int .i64 (p : Int)] w fun e w' => e = .returned (.int .i64 0) ∧ Turned w0 w b jb pb mb X a n S L A hn Mw T p w' := by
 have h4 := pgs_le h.n2
 have hpk := pgs_lt hp
 have hlo := h.lo
 have hhi := h.hi
 have hn2 := h.n2
 have hc := mturn_any h.pk h.mp h.xm (by omega) bd hpg.1 p (by omega) (by omega)
 have hts : (pgT (p / 256) (turnB bd p)).size = 256 := pgT_size _ (by omega) _ (by rw [turnB_size]; exact hpg.1)
 obtain ⟨r1, r2, r3, r4⟩ := h.seen.write h.srt ho (a + p / 256) (by omega) (by omega) _ hts hr
 rw [r1] at hc
 refine hc.mono ?_
 rintro e w' ⟨rfl, K, hO⟩
 refine ⟨rfl, _, _, h.next K hO r2 (h.ms.turn p hp bd hpg (by rw [h.seen.ln]; exact hhi)), r3, ⟨⟨_, hts, r4⟩, (write_rest h.seen.rst _ _).2.2⟩, hO⟩
theorem BG.changeable {w0 w : World} {b jb pb mb : Nat} {X : Nat → Prop} {a n : Nat} {S : PS} {L : List ByteArray} {A : List (Nat × Nat)} {hn : Nat} {Mw Mn : List ByteArray} {T : Nat → Bool} (h : BG w0 w b jb pb mb X a n S L A hn Mw Mn T) : Calls Tryz.prog 123 #[.pointer (some ⟨mb, 0, none⟩)] w fun e w' => e = .returned (.bool S.op) ∧ BG w0 w' b jb pb mb X a n S L A hn Mw Mn T ∧ Only (fun x => ¬ X x) w w' := by
 have hc := changeable_any h.pk h.mp h.xm
 have e : chgS S = S := by
  unfold chgS
  cases ho : S.op with
  | true => rfl
  | false =>
   have ht := h.seen.cl ho
   rw [h.seen.rst.lost]
   obtain ⟨s, nx, jl, op, tx, keep, hh, hits, mis, lost⟩ := S
   simp only at ho ht
   subst ho ht
   rfl
 rw [e] at hc
 refine hc.mono ?_
 rintro e w' ⟨rfl, K, hO⟩
 exact ⟨rfl, h.next K hO h.seen h.ms, hO⟩
def TxI (S : PS) (a n : Nat) : Prop := ∀ p ∈ S.tx, (a : Int) ≤ p.1 ∧ p.1 < (a : Int) + (pgs n : Int)
theorem BG.room {w0 w : World} {b jb pb mb : Nat} {X : Nat → Prop} {a n : Nat} {S : PS} {L : List ByteArray} {A : List (Nat × Nat)} {hn : Nat} {Mw Mn : List ByteArray} {T : Nat → Bool} (h : BG w0 w b jb pb mb X a n S L A hn Mw Mn T) (ht : TxI S a n) (i : Int) : roomB S i = true := by
 have := tx_few h.srt h.n2 ht
 unfold roomB
 rw [Bool.or_eq_true]
 exact .inr (decide_eq_true (by omega))
set_option maxRecDepth 100000 in
set_option maxHeartbeats 1000000 in
theorem mfree_none {w0 w : World} {b jb pb mb : Nat} {X : Nat → Prop} {a n : Nat} {S : PS} {L : List ByteArray} {A : List (Nat × Nat)} {hn : Nat} {Mw Mn : List ByteArray} {T : Nat → Bool} (h : BG w0 w b jb pb mb X a n S L A hn Mw Mn T) (ho : S.op = false) (i : Nat) (hi : i < n) : Calls Tryz.prog 78 #[.pointer (some ⟨mb, 0, none⟩), .int .i64 (i : Int)] w fun e w' => e = .returned (.int .i64 61) ∧ Kept w0 w b jb pb mb X a n S L A hn Mw Mn T w' := by
 have HH := hide (mhas_any h.mp (i : Int))
 rw [decide_eq_true (show (0 : Int) ≤ (i : Int) by omega), decide_eq_true (show (i : Int) < (n : Int) by omega)] at HH
 have HC := hide h.changeable
 rw [ho] at HC
 clear h ho hi
 go_enter Tryz.func78, Tryz.ntmps78
 go_wp2_with (first | (go_at_call 122; refine (unhide HH).mono ?_; rintro e w' ⟨rfl, hw'⟩; subst w'))
 refine (unhide HC).mono ?_
 rintro e x1 ⟨rfl, h1, hO1⟩
 have H1 := hide (And.intro h1 hO1)
 clear h1 hO1 HC HH
 go_wp2
 go_ret
 exact ⟨rfl, S, (unhide H1).1, rfl, Tk.refl _, (unhide H1).2⟩
set_option maxRecDepth 100000 in
set_option maxHeartbeats 1000000 in
theorem mfree_free {w0 w : World} {b jb pb mb : Nat} {X : Nat → Prop} {a n : Nat} {S : PS} {L : List ByteArray} {A : List (Nat × Nat)} {hn : Nat} {Mw Mn : List ByteArray} {T : Nat → Bool} (h : BG w0 w b jb pb mb X a n S L A hn Mw Mn T) (ho : S.op = true) (i : Nat) (hi : i < n) (hT : T i = false) : Calls Tryz.prog 78 #[.pointer (some ⟨mb, 0, none⟩), .int .i64 (i : Int)] w fun e w' => e = .returned (.int .i64 71) ∧ Kept w0 w b jb pb mb X a n S L A hn Mw Mn T w' := by
 have hn2 := h.n2
 have HH := hide (mhas_any h.mp (i : Int))
 rw [decide_eq_true (show (0 : Int) ≤ (i : Int) by omega), decide_eq_true (show (i : Int) < (n : Int) by omega)] at HH
 have HC := hide h.changeable
 rw [ho] at HC
 have HPO := hide (fun W => pageOf_any i (by omega) W)
 have HPL := hide (pgs_lt hi)
 have HIB := hide (show i < 1000000 by omega)
 obtain ⟨ik, hik⟩ : ∃ q, i / 256 = q := ⟨_, rfl⟩
 rw [hik] at HPO HPL
 have HIK := hide hik
 clear h ho hik
 go_enter Tryz.func78, Tryz.ntmps78
 go_wp2_with (first | (go_at_call 122; refine (unhide HH).mono ?_; rintro e w' ⟨rfl, hw'⟩; subst w'))
 refine (unhide HC).mono ?_
 rintro e x1 ⟨rfl, h1, hO1⟩
 obtain ⟨bd, hpg, hrd⟩ := h1.read ik (unhide HPL)
 have HR := hide hrd
 have HTK := hide (fun W => isTaken_any bd hpg.1 i (unhide HIB) W)
 rw [hpg.bit i hi (unhide HIK), hT] at HTK
 have HO1 := hide hO1
 clear hrd hpg h1 hO1 HC HH
 go_wp2_with (first | (go_at_call 124; refine (unhide HPO _).mono ?_; rintro e w' ⟨rfl, hw'⟩; subst w'))
 refine (unhide HR).mono ?_
 rintro e x2 ⟨rfl, hK⟩
 have HK := hide hK
 clear hK HR
 go_wp2_with (go_at_call 125; refine (unhide HTK _).mono ?_; rintro e x3 ⟨rfl, hb3⟩)
 go_ret
 obtain ⟨S', k1, k2, k3, k4⟩ := unhide HK
 exact ⟨rfl, S', k1.below hb3, k2, k3, ((unhide HO1).trans k4 (fun _ _ q => q)).trans (Only.of_below (P := fun x => ¬ X x) hb3) (fun _ _ q => q)⟩
set_option maxRecDepth 100000 in
set_option maxHeartbeats 1000000 in
theorem mfree_ok {w0 w : World} {b jb pb mb : Nat} {X : Nat → Prop} {a n : Nat} {S : PS} {L : List ByteArray} {A : List (Nat × Nat)} {hn : Nat} {Mw Mn : List ByteArray} {T : Nat → Bool} (h : BG w0 w b jb pb mb X a n S L A hn Mw Mn T) (ho : S.op = true) (i : Nat) (hi : i < n) (hT : T i = true) (hr : roomB S ((a + i / 256 : Nat) : Int) = true) : Calls Tryz.prog 78 #[.pointer (some ⟨mb, 0, none⟩), .int .i64 (i : Int)] w fun e w' => e = .returned (.int .i64 0) ∧ Turned w0 w b jb pb mb X a n S L A hn Mw T i w' := by
 have hn2 := h.n2
 have HH := hide (mhas_any h.mp (i : Int))
 rw [decide_eq_true (show (0 : Int) ≤ (i : Int) by omega), decide_eq_true (show (i : Int) < (n : Int) by omega)] at HH
 have HC := hide h.changeable
 rw [ho] at HC
 have HPO := hide (fun W => pageOf_any i (by omega) W)
 have HPL := hide (pgs_lt hi)
 have HIB := hide (show i < 1000000 by omega)
 have HRM := hide (And.intro ho hr)
 obtain ⟨ik, hik⟩ : ∃ q, i / 256 = q := ⟨_, rfl⟩
 rw [hik] at HPO HPL
 have HIK := hide hik
 clear h ho hik hr
 go_enter Tryz.func78, Tryz.ntmps78
 go_wp2_with (first | (go_at_call 122; refine (unhide HH).mono ?_; rintro e w' ⟨rfl, hw'⟩; subst w'))
 refine (unhide HC).mono ?_
 rintro e x1 ⟨rfl, h1, hO1⟩
 obtain ⟨bd, hpg, hrd⟩ := h1.read ik (unhide HPL)
 have HR := hide hrd
 have HTK := hide (fun W => isTaken_any bd hpg.1 i (unhide HIB) W)
 rw [hpg.bit i hi (unhide HIK), hT] at HTK
 have HO1 := hide hO1
 have HPG := hide hpg
 clear hrd hpg h1 hO1 HC HH
 go_wp2_with (first | (go_at_call 124; refine (unhide HPO _).mono ?_; rintro e w' ⟨rfl, hw'⟩; subst w'))
 refine (unhide HR).mono ?_
 rintro e x2 ⟨rfl, hK⟩
 have HK := hide hK
 clear hK HR
 go_wp2_with fail
 refine (unhide HTK _).mono ?_
 rintro e x3 ⟨rfl, hb3⟩
 obtain ⟨S', k1, k2, k3, k4⟩ := unhide HK
 have HTU := hide (BG.turn (k1.below hb3) (k2.trans (unhide HRM).1) i hi bd (by rw [unhide HIK]; exact unhide HPG) (by rw [show roomB S' _ = roomB S ((a + i / 256 : Nat) : Int) from by unfold roomB; rw [k3.1]]; exact (unhide HRM).2))
 have HX := hide (And.intro k3 (((unhide HO1).trans k4 (fun _ _ q => q)).trans (Only.of_below (P := fun x => ¬ X x) hb3) (fun _ _ q => q)))
 clear k1 k2 k3 k4 hb3 HTK HK
 go_wp2_with (go_at_call 126; refine (unhide HTU).mono ?_; rintro e x4 ⟨rfl, hTu⟩)
 go_ret
 obtain ⟨S2, M2, m1, m2, m3, m4⟩ := hTu
 exact ⟨rfl, S2, M2, m1, m2, ⟨by rw [← (unhide HX).1.1]; exact m3.1, m3.2.trans (unhide HX).1.2⟩, (unhide HX).2.trans m4 (fun _ _ q => q)⟩
end Go.Proofs.YtiellebdliifdaaGreatDoor
namespace Go.Proofs.YtiellebdliifdaaGreatDoor
open Go.RowKit Go.Maps Go.Sort Go.Shelf
theorem jump_ret {l : Nat} {J : Act → World → Prop} {Q : Exit → Act → World → Prop} {ac : Act} {wc : World} : Exit.jump l J Q .ret ac wc = Q .ret ac wc := rfl
theorem Kept.read {w0 w : World} {b jb pb mb : Nat} {X : Nat → Prop} {a n : Nat} {S : PS} {L : List ByteArray} {A : List (Nat × Nat)} {hn : Nat} {Mw Mn : List ByteArray} {T : Nat → Bool} {wr : World} (h : Kept w0 w b jb pb mb X a n S L A hn Mw Mn T wr) (k : Nat) (hk : k < pgs n) : ∃ bd, Pg n T k bd (Mn.getD (a + k) ByteArray.empty) ∧ Calls Tryz.prog 119 #[.pointer (some ⟨mb, 0, none⟩), .int .i64 (k : Int)] wr fun e w' => e = .returned (.tuple #[.string bd, .int .i64 0]) ∧ Kept w0 w b jb pb mb X a n S L A hn Mw Mn T w' := by
 obtain ⟨S', h2, h3, h4, h5⟩ := h
 obtain ⟨bd, hp, hc⟩ := h2.read k hk
 refine ⟨bd, hp, hc.mono ?_⟩
 rintro e w' ⟨rfl, S2, k1, k2, k3, k4⟩
 exact ⟨rfl, S2, k1, k2.trans h3, k3.trans h4, h5.trans k4 (fun _ _ q => q)⟩
theorem Kept.below {w0 w : World} {b jb pb mb : Nat} {X : Nat → Prop} {a n : Nat} {S : PS} {L : List ByteArray} {A : List (Nat × Nat)} {hn : Nat} {Mw Mn : List ByteArray} {T : Nat → Bool} {wr w' : World} (h : Kept w0 w b jb pb mb X a n S L A hn Mw Mn T wr) (hb : Below wr.heap.size wr w') : Kept w0 w b jb pb mb X a n S L A hn Mw Mn T w' := by
 obtain ⟨S', h2, h3, h4, h5⟩ := h
 exact ⟨S', h2.below hb, h3, h4, h5.trans (Only.of_below (P := fun x => ¬ X x) hb) (fun _ _ q => q)⟩
theorem Kept.mb {w0 w : World} {b jb pb mb : Nat} {X : Nat → Prop} {a n : Nat} {S : PS} {L : List ByteArray} {A : List (Nat × Nat)} {hn : Nat} {Mw Mn : List ByteArray} {T : Nat → Bool} {wr : World} (h : Kept w0 w b jb pb mb X a n S L A hn Mw Mn T wr) : MB wr mb pb a n := by
 obtain ⟨S', h2, h3, h4, h5⟩ := h
 exact h2.mp
set_option maxRecDepth 100000 in
set_option maxHeartbeats 4000000 in
theorem malloc_none {w0 w : World} {b jb pb mb : Nat} {X : Nat → Prop} {a n : Nat} {S : PS} {L : List ByteArray} {A : List (Nat × Nat)} {hn : Nat} {Mw Mn : List ByteArray} {T : Nat → Bool} (h : BG w0 w b jb pb mb X a n S L A hn Mw Mn T) (ho : S.op = false) : Calls Tryz.prog 100 #[.pointer (some ⟨mb, 0, none⟩)] w fun e w' => e = .returned (.tuple #[.int .i64 0, .int .i64 61]) ∧ Kept w0 w b jb pb mb X a n S L A hn Mw Mn T w' := by
 have HC := hide h.changeable
 rw [ho] at HC
 clear h ho
 go_enter Tryz.func100, Tryz.ntmps100
 go_wp2
 go_step3
 go_wp2_with fail
 refine (unhide HC).mono ?_
 rintro e x1 ⟨rfl, h1, hO1⟩
 have H1 := hide (And.intro h1 hO1)
 clear h1 hO1 HC
 go_wp2
 rw [Exit.noGoto_ret]
 go_ret2
 exact ⟨rfl, S, (unhide H1).1, rfl, Tk.refl _, (unhide H1).2⟩
set_option maxRecDepth 100000 in
set_option maxHeartbeats 4000000 in
theorem malloc_ok {w0 w : World} {b jb pb mb : Nat} {X : Nat → Prop} {a n : Nat} {S : PS} {L : List ByteArray} {A : List (Nat × Nat)} {hn : Nat} {Mw Mn : List ByteArray} {T : Nat → Bool} (h : BG w0 w b jb pb mb X a n S L A hn Mw Mn T) (ho : S.op = true) (p : Nat) (hl : Lea T n p) (hr : roomB S ((a + p / 256 : Nat) : Int) = true) : Calls Tryz.prog 100 #[.pointer (some ⟨mb, 0, none⟩)] w fun e w' => e = .returned (.tuple #[.int .i64 (p : Int), .int .i64 0]) ∧ Turned w0 w b jb pb mb X a n S L A hn Mw T p w' := by
 have hn2 := h.n2
 have hn1 := h.n1
 have h4 := pgs_le h.n2
 have hpk := pgs_lt hl.1
 have hpn := hl.1
 have HPO := hide (fun W => pagesOf_any n hn2 W)
 have HC := hide h.changeable
 rw [ho] at HC
 have HRM := hide (And.intro ho hr)
 have HL := hide hl
 have hpg : pgs n = (n + 255) / 256 := rfl
 clear h ho hl hr
 obtain ⟨P0, hP0⟩ : ∃ q, pgs n = q := ⟨_, rfl⟩
 rw [hP0] at HPO h4 hpg hpk
 have HP0 := hide hP0
 clear hP0
 go_enter Tryz.func100, Tryz.ntmps100
 go_wp2
 refine wp_scope_jumps 0 (fun ac wc => ∃ (t1 t2 t3 t6 t7 t8 t9 t10 t11 t12 t13 t14 t15 t16 t17 t18 t19 t20 t21 t22 t23 t24 t25 t26 t27 t28 t29 t30 t31 t32 t33 t34 t35 t36 t37 t38 t39 t40 t41 t42 t43 t44 t45 t46 t47 t48 t49 t50 t51 t52 : Value) (bd : ByteArray), ac = ⟨#[.pointer (some ⟨mb, 0, none⟩), t1, t2, t3, .int .i64 (p : Int), .string bd, t6, t7, t8, t9, t10, t11, t12, t13, t14, t15, t16, t17, t18, t19, t20, t21, t22, t23, t24, t25, t26, t27, t28, t29, t30, t31, t32, t33, t34, t35, t36, t37, t38, t39, t40, t41, t42, t43, t44, t45, t46, t47, t48, t49, t50, t51, t52], []⟩ ∧ Pg n T (p / 256) bd (Mn.getD (a + p / 256) ByteArray.empty) ∧ Kept w0 w b jb pb mb X a n S L A hn Mw Mn T wc) (fun _ _ => 0) rfl ?_ ?_
 ·go_wp2_with fail
  refine (unhide HC).mono ?_
  rintro e x1 ⟨rfl, h1, hO1⟩
  have c2 := h1.mp.c2
  have X1 := hide (show Kept w0 w b jb pb mb X a n S L A hn Mw Mn T x1 from ⟨S, h1, rfl, Tk.refl _, hO1⟩)
  clear h1 hO1 HC
  go_wp2_with (go_at_call 61; refine (unhide HPO _).mono ?_; rintro e w' ⟨rfl, hw'⟩; subst w')
  go_loopw [4, 5, 6, 17] (fun _ _ _ i wr => ∃ k : Nat, k ≤ p / 256 ∧ i = .int .i64 (k : Int) ∧ Kept w0 w b jb pb mb X a n S L A hn Mw Mn T wr) (fun _ _ _ i _ => P0 - (intOf i).toNat)
  case atStart => exact ⟨0, by omega, rfl, unhide X1⟩
  case round =>
   obtain ⟨k, hk, rfl, hI⟩ := hrel
   obtain ⟨wo, rfl⟩ : ∃ wo, wo = wr := ⟨_, rfl⟩
   clear X1 c2
   have hkn : k < P0 := by omega
   have hkn' : (k : Int) < (P0 : Int) := by omega
   obtain ⟨bd, hpg', hc⟩ := hI.read k (by rw [unhide HP0]; exact hkn)
   have HCR := hide hc
   have HPG := hide hpg'
   have hbd := hpg'.1
   clear hI hc hpg'
   go_wp2_with fail
   refine (unhide HCR).mono ?_
   rintro e y1 ⟨rfl, hI1⟩
   have HPI := hide (placesIn_any hI1.mb hn2 k (by rw [unhide HP0]; exact hkn))
   have HI1 := hide hI1
   clear hI1 HCR
   obtain ⟨pn, hpn'⟩ : ∃ q, pin n k = q := ⟨_, rfl⟩
   rw [hpn'] at HPI
   have hpn2 : pn ≤ 256 ∧ 256 * k + pn ≤ n ∧ (pn = 256 ∨ 256 * k + pn = n) := by unfold pin at hpn'; omega
   clear hpn'
   go_wp2_with fail
   refine (unhide HPI).mono ?_
   rintro e y2 ⟨rfl, hb2⟩
   have X2 := hide ((unhide HI1).below hb2)
   clear HI1 HPI hb2
   have HFO := hide (fun W => firstOf_any k (by omega) W)
   go_wp2
   go_loopw [4, 32] (fun _ i wr => ∃ j : Nat, j ≤ pn ∧ 256 * k + j ≤ p ∧ i = .int .i64 (j : Int) ∧ Kept w0 w b jb pb mb X a n S L A hn Mw Mn T wr) (fun _ i _ => pn - (intOf i).toNat)
   case atStart => exact ⟨0, by omega, by omega, rfl, unhide X2⟩
   case round =>
    obtain ⟨j, hj, hjp, rfl, hJ⟩ := hrel
    obtain ⟨wi, rfl⟩ : ∃ wi, wi = wr := ⟨_, rfl⟩
    clear X2
    have HJ := hide hJ
    clear hJ
    by_cases hjn : j < pn
    ·have hjn' : (j : Int) < (pn : Int) := by omega
     have HTK := hide (fun W => isTaken_any bd hbd (256 * k + j) (by omega) W)
     have hbit : bitB bd (256 * k + j) = T (256 * k + j) := (unhide HPG).bit _ (by omega) (by omega)
     rw [hbit] at HTK
     have e1 : ((256 * k : Nat) : Int) + (j : Int) = ((256 * k + j : Nat) : Int) := by omega
     have hfm : 256 * k < 2000 := by omega
     clear hbit
     obtain ⟨mm, hmm⟩ : ∃ q, 256 * k + j = q := ⟨_, rfl⟩
     have hmb : mm < 2000 := by omega
     rw [hmm] at HTK e1
     have HMM := hide hmm
     obtain ⟨fk, hfk⟩ : ∃ q, 256 * k = q := ⟨_, rfl⟩
     rw [hfk] at HFO e1 hfm
     have HFK := hide hfk
     clear hmm hfk
     go_wp2_with (go_at_call 151; refine (unhide HFO _).mono ?_; rintro e w' ⟨rfl, hw'⟩; subst w')
     refine (unhide HTK _).mono ?_
     rintro e y3 ⟨rfl, hb3⟩
     have HJ1 := hide ((unhide HJ).below hb3)
     clear hb3 HTK HJ
     by_cases hmp : mm < p
     ·have hT : T mm = true := (unhide HL).2.2 mm hmp
      rw [hT]
      clear hT
      go_wp2
      go_roundw
      case rel => exact ⟨j + 1, by omega, by have := unhide HMM; omega, by go_num, unhide HJ1⟩
      case measure => simp [intOf]; omega
     ·have hme : mm = p := by have := unhide HMM; omega
      have hT : T mm = false := by rw [hme]; exact (unhide HL).2.1
      rw [hT]
      clear hT hmp
      go_wp2
      go_step3
      have hkp : p / 256 = k := by have := unhide HMM; omega
      refine ⟨rfl, _, _, _, _, _, _, _, _, _, _, _, _, _, _, _, _, _, _, _, _, _, _, _, _, _, _, _, _, _, _, _, _, _, _, _, _, _, _, _, _, _, _, _, _, _, _, _, _, _, _, bd, rfl, by rw [hkp]; exact unhide HPG, unhide HJ1⟩
    ·have hjn' : ¬ (j : Int) < (pn : Int) := by omega
     have hk1 : k + 1 ≤ p / 256 := by omega
     go_wp2
     go_roundw
     case rel => exact ⟨k + 1, hk1, by go_num, unhide HJ⟩
     case measure => simp [intOf]; omega
 ·rintro ac wc ⟨t1, t2, t3, t6, t7, t8, t9, t10, t11, t12, t13, t14, t15, t16, t17, t18, t19, t20, t21, t22, t23, t24, t25, t26, t27, t28, t29, t30, t31, t32, t33, t34, t35, t36, t37, t38, t39, t40, t41, t42, t43, t44, t45, t46, t47, t48, t49, t50, t51, t52, bd, rfl, hpg', hK⟩
  obtain ⟨S', k1, k2, k3, k4⟩ := hK
  have HTU := hide (BG.turn k1 (k2.trans (unhide HRM).1) p hpn bd hpg' (by rw [show roomB S' _ = roomB S ((a + p / 256 : Nat) : Int) from by unfold roomB; rw [k3.1]]; exact (unhide HRM).2))
  have HX := hide (And.intro k3 k4)
  clear k1 k2 k3 k4 hpg' HC
  conv => arg 2; whnf
  go_wp2_with (go_at_call 126; refine (unhide HTU).mono ?_; rintro e x4 ⟨rfl, hTu⟩)
  rw [jump_ret]
  go_ret2
  obtain ⟨S2, M2, m1, m2, m3, m4⟩ := hTu
  exact ⟨rfl, S2, M2, m1, m2, ⟨by rw [← (unhide HX).1.1]; exact m3.1, m3.2.trans (unhide HX).1.2⟩, (unhide HX).2.trans m4 (fun _ _ q => q)⟩
end Go.Proofs.YtiellebdliifdaaGreatDoor
namespace Go.Proofs.YtiellebdliifdaaGreatDoor
open Go.RowKit Go.Maps Go.Sort Go.Shelf
def Scv (pb mb : Nat) : Array Value := #[.pointer (some ⟨pb, 0, none⟩), .pointer (some ⟨mb, 0, none⟩), .int .i64 40]
structure MG (w0 w : World) (b jb pb mb sb : Nat) (X : Nat → Prop) (n : Nat) (S : PS) (L : List ByteArray) (A : List (Nat × Nat)) (hn : Nat) (Mw Mn : List ByteArray) (T : Nat → Bool) : Prop where
 bg : BG w0 w b jb pb mb X 19 n S L A hn Mw Mn T
 st : Blk w sb (Scv pb mb) 129
 xs : X sb
 n88 : n ≤ 88
theorem MG.bel {w0 w : World} {b jb pb mb sb : Nat} {X : Nat → Prop} {n : Nat} {S : PS} {L : List ByteArray} {A : List (Nat × Nat)} {hn : Nat} {Mw Mn : List ByteArray} {T : Nat → Bool} (h : MG w0 w b jb pb mb sb X n S L A hn Mw Mn T) : Below w0.heap.size w0 w := h.bg.pk.bel
theorem MG.c {w0 w : World} {b jb pb mb sb : Nat} {X : Nat → Prop} {n : Nat} {S : PS} {L : List ByteArray} {A : List (Nat × Nat)} {hn : Nat} {Mw Mn : List ByteArray} {T : Nat → Bool} (h : MG w0 w b jb pb mb sb X n S L A hn Mw Mn T) : w.cell? ⟨sb, 0, none⟩ = some (.pointer (some ⟨pb, 0, none⟩)) ∧ w.cell? ⟨sb, 1, none⟩ = some (.pointer (some ⟨mb, 0, none⟩)) ∧ w.cell? ⟨sb, 2, none⟩ = some (.int .i64 40) :=
 ⟨by rw [h.st.cell]; rfl, by rw [h.st.cell]; rfl, by rw [h.st.cell]; rfl⟩
theorem MG.ety {w0 w : World} {b jb pb mb sb : Nat} {X : Nat → Prop} {n : Nat} {S : PS} {L : List ByteArray} {A : List (Nat × Nat)} {hn : Nat} {Mw Mn : List ByteArray} {T : Nat → Bool} (h : MG w0 w b jb pb mb sb X n S L A hn Mw Mn T) : ETy w := h.bg.ety.below h.bel h.bg.ety.lt
theorem MG.below {w0 w : World} {b jb pb mb sb : Nat} {X : Nat → Prop} {n : Nat} {S : PS} {L : List ByteArray} {A : List (Nat × Nat)} {hn : Nat} {Mw Mn : List ByteArray} {T : Nat → Bool} (h : MG w0 w b jb pb mb sb X n S L A hn Mw Mn T) {w' : World} (hb : Below w.heap.size w w') : MG w0 w' b jb pb mb sb X n S L A hn Mw Mn T :=
 ⟨h.bg.below hb, h.st.only (Only.of_below (P := fun _ => False) hb) (fun q => q), h.xs, h.n88⟩
theorem MG.of {w0 w : World} {b jb pb mb sb : Nat} {X : Nat → Prop} {n : Nat} {S : PS} {L : List ByteArray} {A : List (Nat × Nat)} {hn : Nat} {Mw Mn : List ByteArray} {T : Nat → Bool} (h : MG w0 w b jb pb mb sb X n S L A hn Mw Mn T) {w' : World} {S' : PS} {Mn' : List ByteArray} {T' : Nat → Bool} (k : BG w0 w' b jb pb mb X 19 n S' L A hn Mw Mn' T') (ho : Only (fun x => ¬ X x) w w') : MG w0 w' b jb pb mb sb X n S' L A hn Mw Mn' T' :=
 ⟨k, h.st.only ho (fun q => q h.xs), h.xs, h.n88⟩
theorem MG.add {w0 w : World} {b jb pb mb sb : Nat} {X : Nat → Prop} {n : Nat} {S : PS} {L : List ByteArray} {A : List (Nat × Nat)} {hn : Nat} {Mw Mn : List ByteArray} {T : Nat → Bool} (h : MG w0 w b jb pb mb sb X n S L A hn Mw Mn T) (o : Obj) {w' : World} (e : w.alloc o = w') {g : Nat} (hg : w.heap.size = g) : MG w0 w' b jb pb mb sb (fun x => X x ∨ x = g) n S L A hn Mw Mn T := by
 subst e hg
 have hb : Below w.heap.size w (w.alloc o) := (Below.refl _ w).alloc (Nat.le_refl _) _
 exact ⟨h.bg.more hb (fun x q => q.imp_right (fun e => by rw [e]; exact ⟨Nat.le_refl _, by simp⟩)) (.inl h.bg.xm), h.st.only (Only.of_below (P := fun _ => False) hb) (fun q => q), .inl h.xs, h.n88⟩
theorem MG.less {w0 w : World} {b jb pb mb sb : Nat} {X : Nat → Prop} {n : Nat} {S : PS} {L : List ByteArray} {A : List (Nat × Nat)} {hn : Nat} {Mw Mn : List ByteArray} {T : Nat → Bool} (h : MG w0 w b jb pb mb sb X n S L A hn Mw Mn T) {Y : Nat → Prop} (hy : ∀ x, Y x → X x) (hm : Y mb) (hs : Y sb) : MG w0 w b jb pb mb sb Y n S L A hn Mw Mn T := ⟨h.bg.less hy hm, h.st, hs, h.n88⟩
theorem MG.poke {w0 w : World} {b jb pb mb sb : Nat} {X : Nat → Prop} {n : Nat} {S : PS} {L : List ByteArray} {A : List (Nat × Nat)} {hn : Nat} {Mw Mn : List ByteArray} {T : Nat → Bool} (h : MG w0 w b jb pb mb sb X n S L A hn Mw Mn T) {g : Nat} (hg : X g) (hlo : w0.heap.size ≤ g) (h1 : g ≠ mb) (h2 : g ≠ sb) {w' : World} (ho : Only (fun x => x = g) w w') : MG w0 w' b jb pb mb sb X n S L A hn Mw Mn T :=
 ⟨h.bg.poke ho (fun x q _ => by rw [q]; exact hg) (fun x q => by rw [q]; exact hlo) (fun x q => .inl q) h.bg.xm (fun q => h1 q.symm), h.st.only ho (fun q => h2 q.symm), h.xs, h.n88⟩
theorem MG.new {w0 w : World} {b jb pb mb sb : Nat} {X : Nat → Prop} {n : Nat} {S : PS} {L : List ByteArray} {A : List (Nat × Nat)} {hn : Nat} {Mw Mn : List ByteArray} {T : Nat → Bool} (h : MG w0 w b jb pb mb sb X n S L A hn Mw Mn T) {g : Nat} (hg : w.heap.size = g) : ¬ X g ∧ w0.heap.size ≤ g ∧ g ≠ mb ∧ g ≠ sb :=
 ⟨fun q => absurd (h.bg.pk.lt g q) (by rw [hg]; exact Nat.lt_irrefl g), by rw [← hg]; exact h.bel.size, fun q => by have := h.bg.pk.lt mb h.bg.xm; rw [hg, q] at this; exact Nat.lt_irrefl _ this, fun q => by have := h.st.lt; rw [hg, q] at this; exact Nat.lt_irrefl _ this⟩
def MKept (w0 w : World) (b jb pb mb sb : Nat) (X : Nat → Prop) (n : Nat) (S : PS) (L : List ByteArray) (A : List (Nat × Nat)) (hn : Nat) (Mw Mn : List ByteArray) (T : Nat → Bool) (w' : World) : Prop :=
 ∃ S', MG w0 w' b jb pb mb sb X n S' L A hn Mw Mn T ∧ S'.op = S.op ∧ Tk S' S ∧ Only (fun x => ¬ X x) w w'
theorem MG.kept {w0 w : World} {b jb pb mb sb : Nat} {X : Nat → Prop} {n : Nat} {S : PS} {L : List ByteArray} {A : List (Nat × Nat)} {hn : Nat} {Mw Mn : List ByteArray} {T : Nat → Bool} (h : MG w0 w b jb pb mb sb X n S L A hn Mw Mn T) {w' : World} (hb : Below w.heap.size w w') : MKept w0 w b jb pb mb sb X n S L A hn Mw Mn T w' := ⟨S, h.below hb, rfl, Tk.refl _, Only.of_below hb⟩
theorem MKept.below {w0 w : World} {b jb pb mb sb : Nat} {X : Nat → Prop} {n : Nat} {S : PS} {L : List ByteArray} {A : List (Nat × Nat)} {hn : Nat} {Mw Mn : List ByteArray} {T : Nat → Bool} {w1 w2 : World} (h : MKept w0 w b jb pb mb sb X n S L A hn Mw Mn T w1) (hb : Below w1.heap.size w1 w2) : MKept w0 w b jb pb mb sb X n S L A hn Mw Mn T w2 := by
 obtain ⟨S', k1, k2, k3, k4⟩ := h
 exact ⟨S', k1.below hb, k2, k3, k4.trans (Only.of_below (P := fun x => ¬ X x) hb) (fun _ _ q => q)⟩
theorem MKept.of {w0 w : World} {b jb pb mb sb : Nat} {X : Nat → Prop} {n : Nat} {S : PS} {L : List ByteArray} {A : List (Nat × Nat)} {hn : Nat} {Mw Mn : List ByteArray} {T : Nat → Bool} (h : MG w0 w b jb pb mb sb X n S L A hn Mw Mn T) {w' : World} (k : Kept w0 w b jb pb mb X 19 n S L A hn Mw Mn T w') : MKept w0 w b jb pb mb sb X n S L A hn Mw Mn T w' := by
 obtain ⟨S', k1, k2, k3, k4⟩ := k
 exact ⟨S', h.of k1 k4, k2, k3, k4⟩
theorem MKept.trans {w0 w : World} {b jb pb mb sb : Nat} {X : Nat → Prop} {n : Nat} {S : PS} {L : List ByteArray} {A : List (Nat × Nat)} {hn : Nat} {Mw Mn : List ByteArray} {T : Nat → Bool} {w1 w2 : World} (h : MKept w0 w b jb pb mb sb X n S L A hn Mw Mn T w1) (k : ∀ S', MG w0 w1 b jb pb mb sb X n S' L A hn Mw Mn T → S'.op = S.op → Tk S' S → MKept w0 w1 b jb pb mb sb X n S' L A hn Mw Mn T w2) : MKept w0 w b jb pb mb sb X n S L A hn Mw Mn T w2 := by
 obtain ⟨S1, h1, h2, h3, h4⟩ := h
 obtain ⟨S2, k1, k2, k3, k4⟩ := k S1 h1 h2 h3
 exact ⟨S2, k1, k2.trans h2, k3.trans h3, h4.trans k4 (fun _ _ q => q)⟩
def Sec (M : List ByteArray) : Nat → ByteArray := fun k => M.getD k ByteArray.empty
def Eqv (f g : Nat → ByteArray) : Prop := ∀ k, 20 ≤ k → k < 128 → f k = g k
theorem Eqv.refl (f : Nat → ByteArray) : Eqv f f := fun _ _ _ => rfl
theorem Eqv.trans {f g h : Nat → ByteArray} (a : Eqv f g) (c : Eqv g h) : Eqv f h := fun k h1 h2 => (a k h1 h2).trans (c k h1 h2)
theorem Eqv.ups {f g : Nat → ByteArray} (a : Eqv f g) (p : Nat) (t : ByteArray) : Eqv (ups f p t) (ups g p t) := fun k h1 h2 => by
 unfold Go.Proofs.YtiellebdliifdaaGreatDoor.ups
 split
 ·rfl
 ·exact a k h1 h2
def MChg (w0 w : World) (b jb pb mb sb : Nat) (X : Nat → Prop) (n : Nat) (S : PS) (L : List ByteArray) (A : List (Nat × Nat)) (hn : Nat) (Mw : List ByteArray) (d : Nat) (T' : Nat → Bool) (Z : Nat → ByteArray) (w' : World) : Prop :=
 ∃ S' Mn', MG w0 w' b jb pb mb sb X n S' L A hn Mw Mn' T' ∧ S'.op = true ∧ S'.keep = S.keep ∧ S'.tx.length ≤ S.tx.length + d ∧ Eqv (Sec Mn') Z ∧ Only (fun x => ¬ X x) w w'
theorem put_le {l : Tx} (h : Srt l) (i : Int) (s : ByteArray) : (txPut i s l).length ≤ l.length + 1 := by
 rw [put_len h]
 split <;> omega
theorem room_of {S : PS} (h : S.tx.length < 16) (i : Int) : roomB S i = true := by
 unfold roomB
 rw [Bool.or_eq_true]
 exact .inr (decide_eq_true (by omega))
theorem ms_19 {M M' : List ByteArray} {n : Nat} {T : Nat → Bool} (h : MS M 19 n T) (hn : n ≤ 88) (e : M'.getD 19 ByteArray.empty = M.getD 19 ByteArray.empty) : MS M' 19 n T := fun k hk => by
 have : k = 0 := by unfold pgs at hk; omega
 subst this
 obtain ⟨d, hd⟩ := h 0 hk
 exact ⟨d, by rw [show M'.getD (19 + 0) ByteArray.empty = M.getD (19 + 0) ByteArray.empty from e]; exact hd⟩
theorem getD_set (M : List ByteArray) (i k : Nat) (t : ByteArray) (hi : i < M.length) : (M.set i t).getD k ByteArray.empty = if k = i then t else M.getD k ByteArray.empty := by
 rw [List.getD_eq_getElem?_getD, List.getElem?_set]
 by_cases e : k = i
 ·subst e; rw [if_pos rfl, if_pos rfl, if_pos hi]; rfl
 ·rw [if_neg (Ne.symm e), if_neg e, List.getD_eq_getElem?_getD]
set_option maxRecDepth 100000 in
set_option maxHeartbeats 2000000 in
theorem sWhole_any {w0 w : World} {b jb pb mb sb : Nat} {X : Nat → Prop} {n : Nat} {S : PS} {L : List ByteArray} {A : List (Nat × Nat)} {hn : Nat} {Mw Mn : List ByteArray} {T : Nat → Bool} (h : MG w0 w b jb pb mb sb X n S L A hn Mw Mn T) : Calls Tryz.prog 92 #[.pointer (some ⟨sb, 0, none⟩)] w fun e w' => e = .returned (.bool true) ∧ w' = w := by
 obtain ⟨c0, c1, c2⟩ := h.c
 clear h
 go_enter Tryz.func92, Tryz.ntmps92
 go_wp2
 go_ret
 exact ⟨rfl, rfl⟩
set_option maxRecDepth 100000 in
set_option maxHeartbeats 2000000 in
theorem sChange_any {w0 w : World} {b jb pb mb sb : Nat} {X : Nat → Prop} {n : Nat} {S : PS} {L : List ByteArray} {A : List (Nat × Nat)} {hn : Nat} {Mw Mn : List ByteArray} {T : Nat → Bool} (h : MG w0 w b jb pb mb sb X n S L A hn Mw Mn T) : Calls Tryz.prog 47 #[.pointer (some ⟨sb, 0, none⟩)] w fun e w' => e = .returned (.bool S.op) ∧ MG w0 w' b jb pb mb sb X n S L A hn Mw Mn T ∧ Only (fun x => ¬ X x) w w' := by
 have HW := hide (sWhole_any h)
 obtain ⟨c0, c1, c2⟩ := h.c
 have HBG := hide (pbegin_any h.bg.pk)
 have HN := hide (show ∀ W, Only (fun x => ¬ X x) w W → W.cell? ⟨sb, 0, none⟩ = some (.pointer (some ⟨pb, 0, none⟩)) from fun W ho => by rw [(h.st.only ho (fun q => q h.xs)).cell]; rfl)
 have HM := hide h
 cases ho : S.op with
 | true =>
  rw [show beginE S = 60 from by simp [beginE, ho], show beginS S = S from by simp [beginS, ho]] at HBG
  clear ho h
  go_enter Tryz.func47, Tryz.ntmps47
  go_wp2_with (first | (go_at_call 92; refine (unhide HW).mono ?_; rintro e w' ⟨rfl, hw'⟩; subst w') | (go_at_call 8; refine (unhide HBG).mono ?_; rintro e x1 ⟨rfl, K1, hO1⟩))
  go_ret
  exact ⟨rfl, (unhide HM).of ((unhide HM).bg.next K1 hO1 (unhide HM).bg.seen (unhide HM).bg.ms) hO1, hO1⟩
 | false =>
  have hl := h.bg.seen.rst.lost
  have ht := h.bg.seen.cl ho
  rw [show beginE S = 0 from by simp [beginE, ho, hl], show beginS S = { S with op := true } from by simp [beginS, ho, hl]] at HBG
  have HAE := hide (show abortE { S with op := true } = 0 ∧ abortS { S with op := true } = endS { S with op := true } from by simp [abortE, abortS])
  have HES := hide (show endS { S with op := true } = S from by
   obtain ⟨s, nx, jl, op, tx, keep, hh, hits, mis, lost⟩ := S
   simp only at ho ht
   subst ho ht
   rfl)
  clear ho hl ht h
  go_enter Tryz.func47, Tryz.ntmps47
  go_wp2_with (go_at_call 92; refine (unhide HW).mono ?_; rintro e w' ⟨rfl, hw'⟩; subst w')
  refine (unhide HBG).mono ?_
  rintro e x1 ⟨rfl, K1, hO1⟩
  have c0' := unhide HN x1 hO1
  have HAB := hide (pabort_any K1)
  rw [(unhide HAE).1, (unhide HAE).2, unhide HES] at HAB
  have HO1 := hide hO1
  clear K1 hO1 HBG c0
  go_wp2_with fail
  refine (unhide HAB).mono ?_
  rintro e x2 ⟨rfl, K2, hO2⟩
  have HK2 := hide (And.intro K2 ((unhide HO1).trans hO2 (fun _ _ q => q)))
  clear K2 hO2 HAB
  go_wp2
  go_ret
  exact ⟨rfl, (unhide HM).of ((unhide HM).bg.next (unhide HK2).1 (unhide HK2).2 (unhide HM).bg.seen (unhide HM).bg.ms) (unhide HK2).2, (unhide HK2).2⟩
end Go.Proofs.YtiellebdliifdaaGreatDoor
