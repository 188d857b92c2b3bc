import Derived.Test.YtdpnbemagiekoaaGreatDoorMd16
import Derived.Test.YtdpnbemagiekoaaGreatDoorMd07
import Derived.Test.YtdpnbemagiekoaaGreatDoorMd05
import Derived.Test.YtdpnbemagiekoaaGreatDoorMd15
import Derived.Test.YtdpnbemagiekoaaGreatDoorMd09
import Derived.BigQuiet
import Derived.WalkKit
import Derived.Test.YtdpnbemagiekoaaGreatDoorMd00
import Derived.Laws.BitsAll
import Derived.Test.YtdpnbemagiekoaaGreatDoorChecked
import Derived.WalkSpells
import Derived.WalkLawsBesides
import Derived.RegionTactic
import Derived.Deep.QuietTactic
import Derived.Deep.DeepMust
namespace Go.Proofs.YtdpnbemagiekoaaGreatDoor
open Go.RowKit
theorem isectorOf_any (k : Nat) (b : ByteArray) (w : World) : Calls Tryz.prog 96 #[.int .i64 (k : Int), .string b] w fun e w' => e = .returned (.string (pgI k b)) ∧ Below w.heap.size w w' := by
  have HM := hide (fun W => make_any rep_ok 4 (k : Int) b W)
  have HP := hide (show pgI k b = makeB 4 (k : Int) b from rfl)
  generalize pgI k b = t at *
  generalize makeB 4 (k : Int) b = t2 at *
  generalize errM 4 (k : Int) b.size = er at *
  go_enter Tryz.func96, Tryz.ntmps96
  go_wp2_with (go_at_call 169; refine (unhide HM _).mono ?_; rintro e w1 ⟨rfl, hb⟩)
  go_ret
  exact ⟨by rw [unhide HP]; rfl, hb⟩
/-- Is this sector page k of an index? -/
def ibOk (t : ByteArray) (k : Nat) : Prop := prOk t ∧ pkd t = 4 ∧ pnm t = (k : Int) ∧ (pbd t).size = 222
instance instDecPr (t : ByteArray) : Decidable (prOk t) := inferInstanceAs (Decidable (_ ∧ _))
instance instDecIb (t : ByteArray) (k : Nat) : Decidable (ibOk t k) := inferInstanceAs (Decidable (_ ∧ _))
def ibT (t : ByteArray) (k : Nat) : ByteArray := if ibOk t k then pbd t else ⟨#[]⟩
theorem ib_page (k : Nat) (hk : k < 1024) (b : ByteArray) (hb : b.size = 222) : ibOk (pgI k b) k ∧ ibT (pgI k b) k = b := by
  obtain ⟨h1, h2, h3, h4⟩ := pgI_parse k hk b hb
  have h : ibOk (pgI k b) k := ⟨h1, h2, h3, by rw [h4]; exact hb⟩
  exact ⟨h, by rw [ibT, if_pos h, h4]⟩
set_option maxRecDepth 100000 in
set_option maxHeartbeats 1000000 in
theorem ibodyOf_any (t : ByteArray) (ht : t.size ≤ 9223372036854775807) (k : Nat) (w : World) (hg : ETy w) : Calls Tryz.prog 124 #[.string t, .int .i64 (k : Int)] w fun e w' => e = .returned (.tuple #[.string (ibT t k), .bool (decide (ibOk t k))]) ∧ Below w.heap.size w w' := by
  have HP := hide (parse_any rep_ok t ht w hg)
  clear ht hg
  go_enter Tryz.func124, Tryz.ntmps124
  go_wp2_with fail
  refine (unhide HP).mono ?_
  rintro e x1 ⟨q, hb1⟩
  have HB1 := hide hb1
  clear HP hb1
  rcases q with ⟨hpr, rfl⟩ | ⟨hpr, rfl⟩
  · by_cases h : ibOk t k
    · have HT := hide (show ibT t k = pbd t ∧ decide (ibOk t k) = true from ⟨by rw [ibT, if_pos h], decide_eq_true h⟩)
      obtain ⟨h1, h2, h3, h4⟩ := h
      rw [h2, h3]
      have h4' : (((pbd t).size : Int) != 222) = false := by rw [h4]; rfl
      have h3' : ((k : Int) != (k : Int)) = false := by simp
      clear h1 h2 h3 hpr h4
      generalize pbd t = bd at *
      go_wp2
      go_ret2
      rw [(unhide HT).1, (unhide HT).2]
      exact ⟨rfl, (unhide HB1).trans (((Below.refl _ x1).alloc (Nat.le_refl _) _).mono (unhide HB1).size)⟩
    · have HT := hide (show ibT t k = ⟨#[]⟩ ∧ decide (ibOk t k) = false from ⟨by rw [ibT, if_neg h], decide_eq_false h⟩)
      have hc : ¬ (pkd t = 4 ∧ pnm t = (k : Int) ∧ (pbd t).size = 222) := fun q => h ⟨hpr, q.1, q.2.1, q.2.2⟩
      clear h hpr
      generalize pkd t = kd at *
      generalize pnm t = nm at *
      generalize pbd t = bd at *
      by_cases q1 : kd = 4
      · subst q1
        by_cases q2 : nm = (k : Int)
        · subst q2
          have q3 : ((bd.size : Int) != 222) = true := by
            simp only [true_and] at hc
            simp; omega
          have h3' : ((k : Int) != (k : Int)) = false := by simp
          clear hc
          go_wp2
          go_ret2
          rw [(unhide HT).1, (unhide HT).2]
          exact ⟨rfl, (unhide HB1).trans (((Below.refl _ x1).alloc (Nat.le_refl _) _).mono (unhide HB1).size)⟩
        · have q2' : (nm != (k : Int)) = true := by simpa using q2
          clear hc q2
          go_wp2
          go_ret2
          rw [(unhide HT).1, (unhide HT).2]
          exact ⟨rfl, (unhide HB1).trans (((Below.refl _ x1).alloc (Nat.le_refl _) _).mono (unhide HB1).size)⟩
      · have q1' : (kd != 4) = true := by simpa using q1
        clear hc q1
        go_wp2
        go_ret2
        rw [(unhide HT).1, (unhide HT).2]
        exact ⟨rfl, (unhide HB1).trans (((Below.refl _ x1).alloc (Nat.le_refl _) _).mono (unhide HB1).size)⟩
  · have h : ¬ ibOk t k := fun q => hpr q.1
    have HT := hide (show ibT t k = ⟨#[]⟩ ∧ decide (ibOk t k) = false from ⟨by rw [ibT, if_neg h], decide_eq_false h⟩)
    clear h hpr
    go_wp2
    go_ret2
    rw [(unhide HT).1, (unhide HT).2]
    exact ⟨rfl, (unhide HB1).trans (((Below.refl _ x1).alloc (Nat.le_refl _) _).mono (unhide HB1).size)⟩
end Go.Proofs.YtdpnbemagiekoaaGreatDoor

namespace Go.Proofs.YtdpnbemagiekoaaGreatDoor
open Go.RowKit
end Go.Proofs.YtdpnbemagiekoaaGreatDoor

namespace Go.Proofs.YtdpnbemagiekoaaGreatDoor
open Go.RowKit
end Go.Proofs.YtdpnbemagiekoaaGreatDoor

namespace Go.Proofs.YtdpnbemagiekoaaGreatDoor
open Go.RowKit
end Go.Proofs.YtdpnbemagiekoaaGreatDoor

namespace Go.Proofs.YtdpnbemagiekoaaGreatDoor
open Go.RowKit
end Go.Proofs.YtdpnbemagiekoaaGreatDoor

namespace Go.Proofs.YtdpnbemagiekoaaGreatDoor
open Go.RowKit
end Go.Proofs.YtdpnbemagiekoaaGreatDoor

namespace Go.Proofs.YtdpnbemagiekoaaGreatDoor
open Go.RowKit
/-- A disk behind w0, and a fence. -/
def DF (w0 w : World) (b : Nat) (s : DSt) (X : Nat → Prop) : Prop := ∃ v, Dk w w0.heap.size b v s ∧ Below w0.heap.size w0 w ∧ Sane s ∧ ∀ x, X x → ¬ Fd b v x ∧ x < w.heap.size
theorem DF.di {w0 w : World} {b : Nat} {s : DSt} {X : Nat → Prop} (h : DF w0 w b s X) : DI w0 w b s := by
  obtain ⟨v, h1, h2, h3, h4⟩ := h
  exact ⟨v, h1, h2, h3⟩
theorem DF.dpost {w0 w w' : World} {b : Nat} {v : DV} {s s' : DSt} {X : Nat → Prop} (h1 : Dk w w0.heap.size b v s) (h2 : Below w0.heap.size w0 w) (hs : Sane s') (h4 : ∀ x, X x → ¬ Fd b v x ∧ x < w.heap.size) (hP : DPost w0.heap.size b v s' w w') : DF w0 w' b s' X ∧ Only (fun x => ¬ X x) w w' := by
  obtain ⟨v', k1, k2, k3⟩ := hP
  refine ⟨⟨v', k1, DI.only h1 h2 k2, hs, fun x hx => ⟨fun q => ?_, Nat.lt_of_lt_of_le (h4 x hx).2 k2.size⟩⟩, k2.widen (fun k _ q r => (h4 k r).1 q)⟩
  rcases k3 x q with r | r
  · exact (h4 x hx).1 r
  · have := (h4 x hx).2; omega
end Go.Proofs.YtdpnbemagiekoaaGreatDoor

namespace Go.Proofs.YtdpnbemagiekoaaGreatDoor
open Go.RowKit

/-- Eight words. -/
structure H8 where
  a : Int
  b : Int
  c : Int
  d : Int
  e : Int
  f : Int
  g : Int
  h : Int

def rotr (x n : Int) : Int := bits .or .u32 (x / 2 ^ n.toNat) (IntKind.u32.wrap (x * 2 ^ (32 - n).toNat))
def xr (x y : Int) : Int := bits .xor .u32 x y
def nd (x y : Int) : Int := bits .and .u32 x y
def ad (x y : Int) : Int := (x + y) % 4294967296
def bigS1 (e : Int) : Int := xr (xr (rotr e 6) (rotr e 11)) (rotr e 25)
def bigS0 (a : Int) : Int := xr (xr (rotr a 2) (rotr a 13)) (rotr a 22)
def chv (e f g : Int) : Int := xr (nd e f) (nd (bits .xor .u32 4294967295 e) g)
def majv (a b c : Int) : Int := xr (xr (nd a b) (nd a c)) (nd b c)
def sm1 (x : Int) : Int := xr (xr (rotr x 17) (rotr x 19)) (x / 1024)
def sm0 (y : Int) : Int := xr (xr (rotr y 7) (rotr y 18)) (y / 8)
def word (p : List Int) (t : Nat) : Int := ((p.getD (4 * t) 0 * 256 + p.getD (4 * t + 1) 0) * 256 + p.getD (4 * t + 2) 0) * 256 + p.getD (4 * t + 3) 0
def nextW (l : List Int) (t : Nat) : Int := ad (ad (ad (sm1 (l.getD (t - 2) 0)) (l.getD (t - 7) 0)) (sm0 (l.getD (t - 15) 0))) (l.getD (t - 16) 0)
/-- The first t words of the spread piece. -/
def spr (p : List Int) : Nat → List Int
  | 0 => []
  | t + 1 => spr p t ++ [if t < 16 then word p t else nextW (spr p t) t]
def rnd (s : H8) (k w : Int) : H8 :=
  let t1 := ad (ad (ad (ad s.h (bigS1 s.e)) (chv s.e s.f s.g)) k) w
  let t2 := ad (bigS0 s.a) (majv s.a s.b s.c)
  ⟨ad t1 t2, s.a, s.b, s.c, ad s.d t1, s.e, s.f, s.g⟩
def rnds (s : H8) (ks ws : List Int) : Nat → H8
  | 0 => s
  | n + 1 => rnd (rnds s ks ws n) (ks.getD n 0) (ws.getD n 0)
def add8 (s t : H8) : H8 := ⟨ad s.a t.a, ad s.b t.b, ad s.c t.c, ad s.d t.d, ad s.e t.e, ad s.f t.f, ad s.g t.g, ad s.h t.h⟩
def kWords : List Int := [1116352408, 1899447441, 3049323471, 3921009573, 961987163, 1508970993, 2453635748, 2870763221, 3624381080, 310598401, 607225278, 1426881987, 1925078388, 2162078206, 2614888103, 3248222580, 3835390401, 4022224774, 264347078, 604807628, 770255983, 1249150122, 1555081692, 1996064986, 2554220882, 2821834349, 2952996808, 3210313671, 3336571891, 3584528711, 113926993, 338241895, 666307205, 773529912, 1294757372, 1396182291, 1695183700, 1986661051, 2177026350, 2456956037, 2730485921, 2820302411, 3259730800, 3345764771, 3516065817, 3600352804, 4094571909, 275423344, 430227734, 506948616, 659060556, 883997877, 958139571, 1322822218, 1537002063, 1747873779, 1955562222, 2024104815, 2227730452, 2361852424, 2428436474, 2756734187, 3204031479, 3329325298]
def comp (s : H8) (p : List Int) : H8 := add8 s (rnds s kWords (spr p 64) 64)
def start8 : H8 := ⟨0x6a09e667, 0xbb67ae85, 0x3c6ef372, 0xa54ff53a, 0x510e527f, 0x9b05688c, 0x1f83d9ab, 0x5be0cd19⟩
def padded (l : List Int) : List Int := l ++ [128] ++ List.replicate ((119 - l.length % 64) % 64) 0 ++ (List.range 8).map (fun i => (8 * (l.length : Int)) / 2 ^ (8 * (7 - i)) % 256)
/-- n pieces of a filled text are gone through. -/
def comps (s : H8) (l : List Int) : Nat → H8
  | 0 => s
  | n + 1 => comp (comps s l n) ((l.drop (64 * n)).take 64)
def out4 (x : Int) : List Int := [x / 2 ^ 24 % 256, x / 2 ^ 16 % 256, x / 2 ^ 8 % 256, x % 256]
def outBytes (s : H8) : List Int := out4 s.a ++ out4 s.b ++ out4 s.c ++ out4 s.d ++ out4 s.e ++ out4 s.f ++ out4 s.g ++ out4 s.h
def sha (l : List Int) : List Int := outBytes (comps start8 (padded l) ((padded l).length / 64))
end Go.Proofs.YtdpnbemagiekoaaGreatDoor

namespace Go.Proofs.YtdpnbemagiekoaaGreatDoor
open Go.RowKit
def part (p : List Int) (t : Nat) : Nat → Int
  | 0 => 0
  | k + 1 => part p t k * 256 + p.getD (4 * t + k) 0
theorem part_four (p : List Int) (t : Nat) : part p t 4 = word p t := by simp [part, word]
theorem part_bd (p : List Int) (hp : Bytes p) (t : Nat) : ∀ k : Nat, k ≤ 3 → 0 ≤ part p t k ∧ part p t k < 16777216 := by
  intro k hk
  have h0 := hp (4 * t); have h1 := hp (4 * t + 1); have h2 := hp (4 * t + 2)
  rcases (show k = 0 ∨ k = 1 ∨ k = 2 ∨ k = 3 by omega) with rfl | rfl | rfl | rfl <;> simp only [part, Nat.add_zero] <;> omega
theorem or_byte (x b : Int) (h0 : 0 ≤ x) (h1 : x < 16777216) (h2 : 0 ≤ b) (h3 : b < 256) : bits .or .u32 (IntKind.u32.wrap (x * 2 ^ 8)) b = x * 256 + b := by
  obtain ⟨X, rfl⟩ := Int.eq_ofNat_of_zero_le h0
  obtain ⟨B, rfl⟩ := Int.eq_ofNat_of_zero_le h2
  have e : IntKind.u32.wrap ((X : Int) * 2 ^ 8) = ((X * 256 : Nat) : Int) := by rw [IntKind.wrap_u32']; omega
  rw [e, u32_or_nat _ _ (by omega) (by omega)]
  have : X * 256 ||| B = X * 256 + B := by
    have := Nat.shiftLeft_add_eq_or_of_lt (i := 8) (b := B) (by omega) X
    rw [Nat.shiftLeft_eq, show (2 : Nat) ^ 8 = 256 from rfl] at this; exact this.symm
  rw [this]; omega
theorem spr_len (p : List Int) : ∀ t, (spr p t).length = t
  | 0 => rfl
  | t + 1 => by simp [spr, spr_len p t]
theorem getD_set (l : List Int) (i j : Nat) (v : Int) : (l.set i v).getD j 0 = if i = j ∧ i < l.length then v else l.getD j 0 := by
  simp only [List.getD_eq_getElem?_getD, List.getElem?_set]
  by_cases h : i = j
  · by_cases hl : i < l.length
    · simp [h, h ▸ hl]
    · subst h; simp [hl]
  · simp [h]
theorem fill_set (l : List Int) (n : Nat) (v : Int) (h : l.length < n) : (l ++ List.replicate (n - l.length) 0).set l.length v = l ++ [v] ++ List.replicate (n - (l.length + 1)) 0 := by
  obtain ⟨m, hm⟩ : ∃ m, n - l.length = m + 1 := ⟨n - l.length - 1, by omega⟩
  rw [hm, List.replicate_succ, List.set_append, if_neg (by omega)]
  have : n - (l.length + 1) = m := by omega
  simp [this]
def H8.vals (s : H8) : List Int := [s.a, s.b, s.c, s.d, s.e, s.f, s.g, s.h]
theorem take_set (z s : List Int) (i : Nat) (v : Int) (hz : i < z.length) (hs : i < s.length) (hv : v = z.getD i 0) : (z.take i ++ s.drop i).set i v = z.take (i + 1) ++ s.drop (i + 1) := by
  subst hv
  have h1 : (z.take i).length = i := by simp; omega
  rw [List.set_append, if_neg (by omega), h1, Nat.sub_self, List.drop_eq_getElem_cons hs, List.set_cons_zero, List.take_succ_eq_append_getElem hz, List.append_assoc, List.singleton_append]
  congr 2
  simp [hz]
theorem getD_take_drop (z s : List Int) (i : Nat) (hz : i ≤ z.length) : (z.take i ++ s.drop i).getD i 0 = s.getD i 0 := by
  simp [List.getElem?_append, Nat.min_eq_left hz]
theorem add8_vals (s t : H8) : (add8 s t).vals = List.zipWith ad s.vals t.vals := by simp [add8, H8.vals]
end Go.Proofs.YtdpnbemagiekoaaGreatDoor

namespace Go.Proofs.YtdpnbemagiekoaaGreatDoor
open Go.RowKit

def SprInv (w : World) (p l : List Int) (wr : World) : Prop :=
  Arr wr w.heap.size 0 .u8 p ∧ Arr wr (w.heap.size + 1 + 1) 0 .u32 l ∧ Arr wr (w.heap.size + 1) 0 .u32 (List.replicate 64 0) ∧ Below w.heap.size w wr

theorem SprInv.drew {w : World} {p l : List Int} {wr : World} (h : SprInv w p l wr) : SprInv w p l wr.drew := ⟨h.1, h.2.1, h.2.2.1, h.2.2.2.drew⟩
theorem SprInv.drewN {w : World} {p l : List Int} {wr : World} (h : SprInv w p l wr) (n : Nat) : SprInv w p l (wr.drewN n) := ⟨h.1, h.2.1, h.2.2.1, below_drewN h.2.2.2 n⟩
theorem SprInv.put {w : World} {p l l' : List Int} {wr : World} (h : SprInv w p l wr) (t : Nat) (ht : t < l.length) (v : Int) (e : l.set t v = l') : SprInv w p l' (wr.setCell ⟨w.heap.size + 1 + 1, t, none⟩ (.int .u32 v)) := by
  subst e
  exact ⟨h.1.other _ _ (.inl (by simp; omega)), h.2.1.set0 t ht v, h.2.2.1.other _ _ (.inl (by simp)), h.2.2.2.setCell (by simp; omega) _⟩
theorem SprInv.start (w : World) (p : List Int) (c : Array Value) (hc : c = ((List.replicate 64 (0 : Int)).map (Value.int .u32)).toArray) :
    SprInv w p (List.replicate 64 0) (((w.alloc (Obj.cells (List.map (Value.int IntKind.u8) p).toArray 262)).alloc (Obj.cells c 315)).alloc (Obj.cells c 315)) :=
  ⟨((arr_new w .u8 p 262 _ rfl).alloc (by simp) _).alloc (by simp; omega) _, by simpa using arr_new ((w.alloc (Obj.cells (List.map (Value.int IntKind.u8) p).toArray 262)).alloc (Obj.cells c 315)) .u32 (List.replicate 64 0) 315 c hc,
   by simpa using (arr_new (w.alloc (Obj.cells (List.map (Value.int IntKind.u8) p).toArray 262)) .u32 (List.replicate 64 0) 315 c hc).alloc (by simp) (Obj.cells c 315),
   (((Below.refl _ _).alloc (Nat.le_refl _) _).alloc (by simp) _).alloc (by simp; omega) _⟩
theorem or_byte' (x b y : Int) (h0 : 0 ≤ x) (h1 : x < 16777216) (h2 : 0 ≤ b) (h3 : b < 256) (hy : y = x * 256) : bits .or .u32 y b = x * 256 + b := by
  rw [← or_byte x b h0 h1 h2 h3, hy]
  congr 1
  rw [IntKind.wrap_u32']
  omega

theorem size315 : (Tryz.prog.info? 315).map (·.size) = some 64 := by kernel_rfl
theorem size261 : (Tryz.prog.info? 261).map (·.size) = some 8 := by kernel_rfl
theorem size262 : (Tryz.prog.info? 262).map (·.size) = some 64 := by kernel_rfl
theorem hturned_any (x n : Int) (w : World) (h0 : 0 ≤ n) (h1 : n ≤ 32) :
    Calls Tryz.prog 263 #[.int .u32 x, .int .u64 n] w fun e w' => e = .returned (.int .u32 (rotr x n)) ∧ w' = w := by
  go_enter Tryz.func263, Tryz.ntmps263
  go_wp2
  go_ret
  exact ⟨rfl, rfl⟩
set_option maxHeartbeats 1000000 in
theorem spread_any (p : List Int) (hp : p.length = 64) (hb : Bytes p) (w : World) :
    Calls Tryz.prog 262 #[.agg (p.map (Value.int .u8)).toArray] w fun e w' => e = .returned (.agg ((spr p 64).map (Value.int .u32)).toArray) ∧ Below w.heap.size w w' := by
  have HS := hide (SprInv.start w p _ rfl)
  go_enter Tryz.func262, Tryz.ntmps262
  go_wp2
  go_loopw [11] (fun i wr => ∃ t : Nat, t ≤ 16 ∧ i = .int .i64 t ∧ SprInv w p (spr p t ++ List.replicate (64 - t) 0) wr) (fun i _ => 16 - (intOf i).toNat)
  case atStart => exact ⟨0, by omega, rfl, unhide HS⟩
  case round =>
    clear HS
    obtain ⟨t, ht, rfl, hI⟩ := hrel
    by_cases htl : t < 16
    · obtain ⟨wo, rfl⟩ : ∃ wo : World, wo = wr := ⟨_, rfl⟩
      have HI := hide hI
      clear hI
      go_wp2
      go_loopw [14] (fun i wr => ∃ k : Nat, k ≤ 4 ∧ i = .int .i64 k ∧ SprInv w p ((spr p t ++ List.replicate (64 - t) 0).set t (part p t k)) wr) (fun i _ => 4 - (intOf i).toNat)
      case atStart => exact ⟨0, by omega, rfl, by
        have := unhide HI
        have e : (spr p t ++ List.replicate (64 - t) 0).set t (part p t 0) = spr p t ++ List.replicate (64 - t) 0 := by
          apply List.ext_getElem?
          intro i
          rw [List.getElem?_set]
          by_cases h : t = i
          · subst h
            have h1 : t < t + (64 - t) := by omega
            simp [part, spr_len, h1]
          · simp [h]
        rw [e]; exact this⟩
      case round =>
        obtain ⟨k, hk, rfl, hI⟩ := hrel
        by_cases hkl : k < 4
        · have c1 := hI.1.get0 (4 * t + k) (by omega)
          have c2 := hI.2.1.get0 t (by simp [spr_len]; omega)
          rw [getD_set, if_pos ⟨rfl, by simp [spr_len]; omega⟩] at c2
          have f2 := hI.2.1.free0 t (by simp [spr_len]; omega)
          have HI2 := hide hI
          clear hI
          have bd := part_bd p hb t k (by omega)
          have bb := hb (4 * t + k)
          obtain ⟨x, hx⟩ : ∃ x, x = part p t k := ⟨_, rfl⟩
          obtain ⟨y, hy⟩ : ∃ y, y = p.getD (4 * t + k) 0 := ⟨_, rfl⟩
          rw [← hx] at c2 bd
          rw [← hy] at c1 bb
          have HX := hide hx; have HY := hide hy
          clear hx hy
          go_wp2
          go_region
          go_wp2
          go_roundw
          case rel =>
            refine ⟨k + 1, by omega, by go_num, ((unhide HI2).put t (by simp [spr_len]; omega) _ ?_).drew⟩
            rw [List.set_set, or_byte' x y _ bd.1 bd.2 bb.1 bb.2 (by omega)]
            rw [part, unhide HX, unhide HY]
          case measure => simp [intOf]; omega
        · have : k = 4 := by omega
          subst this
          have HI2 := hide hI
          clear hI
          go_wp2
          go_roundw
          case rel =>
            refine ⟨t + 1, by omega, by go_num, ?_⟩
            have := unhide HI2
            rw [part_four] at this
            have e := fill_set (spr p t) 64 (word p t) (by rw [spr_len]; omega)
            rw [spr_len] at e
            rw [e] at this
            rw [spr, if_pos htl]; exact this
          case measure => simp [intOf]; omega
    · have e16 : t = 16 := by omega
      rw [e16] at hI
      have HI2 := hide hI
      clear hI e16
      go_wp2
      go_loopw [6] (fun i wr => ∃ t : Nat, 16 ≤ t ∧ t ≤ 64 ∧ i = .int .i64 t ∧ SprInv w p (spr p t ++ List.replicate (64 - t) 0) wr) (fun i _ => 64 - (intOf i).toNat)
      case atStart => exact ⟨16, by omega, by omega, rfl, unhide HI2⟩
      case round =>
        clear HI2
        clear ht htl
        obtain ⟨t, ht1, ht2, rfl, hI⟩ := hrel
        by_cases htl : t < 64
        · have gd : ∀ j, j < t → (spr p t ++ List.replicate (64 - t) 0).getD j 0 = (spr p t).getD j 0 := by
            intro j hj
            simp [List.getElem?_append, spr_len, hj]
          have hlen : (spr p t ++ List.replicate (64 - t) 0).length = 64 := by simp [spr_len]; omega
          have c2 := hI.2.1.get0 (t - 2) (by omega)
          have c15 := hI.2.1.get0 (t - 15) (by omega)
          have c7 := hI.2.1.get0 (t - 7) (by omega)
          have c16 := hI.2.1.get0 (t - 16) (by omega)
          have c0 := hI.2.1.get0 t (by omega)
          have f0 := hI.2.1.free0 t (by omega)
          rw [gd _ (by omega)] at c2 c15 c7 c16
          obtain ⟨z, hz⟩ : ∃ z, z = (spr p t ++ List.replicate (64 - t) 0).getD t 0 := ⟨_, rfl⟩
          rw [← hz] at c0
          clear hz
          obtain ⟨x2, h2⟩ : ∃ z, z = (spr p t).getD (t - 2) 0 := ⟨_, rfl⟩
          obtain ⟨x15, h15⟩ : ∃ z, z = (spr p t).getD (t - 15) 0 := ⟨_, rfl⟩
          obtain ⟨x7, h7⟩ : ∃ z, z = (spr p t).getD (t - 7) 0 := ⟨_, rfl⟩
          obtain ⟨x16, h16⟩ : ∃ z, z = (spr p t).getD (t - 16) 0 := ⟨_, rfl⟩
          rw [← h2] at c2
          rw [← h15] at c15
          rw [← h7] at c7
          rw [← h16] at c16
          have hn : nextW (spr p t) t = ad (ad (ad (sm1 x2) x7) (sm0 x15)) x16 := by rw [nextW, h2, h15, h7, h16]
          have HN := hide hn
          have HI2 := hide hI
          have HL := hide hlen
          clear hI hlen gd h2 h15 h7 h16 hn
          have e2 : ((t : Int) - 2).toNat = t - 2 := by omega
          have e15 : ((t : Int) - 15).toNat = t - 15 := by omega
          have e7 : ((t : Int) - 7).toNat = t - 7 := by omega
          have e16 : ((t : Int) - 16).toNat = t - 16 := by omega
          go_wp2
          go_quiet (fail)
          go_wp2_with (go_at_call 263; refine (hturned_any _ _ _ (by decide) (by decide)).mono ?_; rintro e w' ⟨rfl, rfl⟩)
          go_region
          go_wp2
          go_roundw
          case rel =>
            refine ⟨t + 1, by omega, by omega, by go_num, ?_⟩
            refine ((unhide HI2).drewN _).put t (by rw [unhide HL]; exact htl) _ ?_
            have e := fill_set (spr p t) 64 (nextW (spr p t) t) (by rw [spr_len]; exact htl)
            rw [spr_len] at e
            rw [spr, if_neg (by omega), ← e, unhide HN]
            congr 1
            simp only [ad, sm1, sm0, xr]
            omega
          case measure => simp [intOf]; omega
        · have e64 : t = 64 := by omega
          rw [e64] at hI
          simp only [Nat.sub_self, List.replicate_zero, List.append_nil] at hI
          obtain ⟨_, hA, hR, hB⟩ := hI
          clear e64
          have hr := hide hA.range
          have ht := hide hR.there
          have HB := hide hB
          clear hA hR hB
          go_wp2_with (first
            | (refine wpList_load_mid rfl 315 (.tmp 3) rfl (w.heap.size + 1 + 1) 0 rfl _ _ (unhide hr) Tryz.underlying315 rfl (by rw [size315]; simp [spr_len]) ?_)
            | (refine wpList_store_mid rfl 315 (.tmp 2) (.tmp 76) rfl (w.heap.size + 1) 0 _ rfl rfl (by simpa [spr_len] using unhide ht) (by rw [size315]; simp [spr_len]) (all_oneCell_toArray (by simp [Value.oneCell'])) ?_))
          have hld := run_loadVar_mid (P := Tryz.prog) _ (w.heap.size + 1) 0 315 _ _ (World.rangeAt_setCells_same wr (w.heap.size + 1) 0 ((spr p 64).map (Value.int .u32)) (by simpa [spr_len] using unhide ht)) Tryz.underlying315 rfl (by rw [size315]; simp [spr_len])
          refine bodyPost_ret (v := .agg ((spr p 64).map (Value.int .u32)).toArray) ?_ rfl ⟨rfl, below_setCells (by omega) _ _ (unhide HB)⟩
          exact results_cell rfl _ _ _ ⟨w.heap.size + 1, 0, none⟩ rfl _ hld
end Go.Proofs.YtdpnbemagiekoaaGreatDoor

namespace Go.Proofs.YtdpnbemagiekoaaGreatDoor
open Go.RowKit

/-- The table of the program: block 0. -/
def KTab (w : World) : Prop := 4 < w.heap.size ∧ ∀ j, j < 64 → w.cell? ⟨4, j, none⟩ = some (.int .u32 (kWords.getD j 0))
theorem KTab.below {w w' : World} {B : Nat} (h : KTab w) (hb : Below B w w') (hB : 4 < B) : KTab w' :=
  ⟨Nat.lt_of_lt_of_le h.1 hb.size, fun j hj => by rw [hb.cell (p := ⟨4, j, none⟩) hB]; exact h.2 j hj⟩

def MixInv (w : World) (m : Nat) (l z : List Int) (wr : World) : Prop :=
  Arr wr w.heap.size 0 .u32 l ∧ Arr wr (w.heap.size + 1 + 1) 0 .u32 (List.replicate 8 0) ∧ Arr wr m 0 .u32 z ∧ Below w.heap.size w wr ∧ w.heap.size + 1 + 1 < m ∧ m < wr.heap.size

theorem MixInv.drewN {w : World} {m : Nat} {l z : List Int} {wr : World} (h : MixInv w m l z wr) (n : Nat) : MixInv w m l z (wr.drewN n) :=
  ⟨h.1, h.2.1, h.2.2.1, below_drewN h.2.2.2.1 n, h.2.2.2.2.1, h.2.2.2.2.2⟩
theorem ktab_drewN {w : World} (h : KTab w) (n : Nat) : KTab (w.drewN n) := h
theorem max_u32 : (if IntKind.u32.signed = true then (-1 : Int) else (IntKind.u32.max : Int)) = 4294967295 := by decide
theorem MixInv.drew {w : World} {m : Nat} {l z : List Int} {wr : World} (h : MixInv w m l z wr) : MixInv w m l z wr.drew :=
  ⟨h.1, h.2.1, h.2.2.1, h.2.2.2.1.drew, h.2.2.2.2.1, h.2.2.2.2.2⟩
theorem MixInv.put {w : World} {m : Nat} {l l' z : List Int} {wr : World} (h : MixInv w m l z wr) (t : Nat) (ht : t < l.length) (v : Int) (e : l.set t v = l') : MixInv w m l' z (wr.setCell ⟨w.heap.size, t, none⟩ (.int .u32 v)) := by
  subst e
  exact ⟨h.1.set0 t ht v, h.2.1.other _ _ (.inl (by simp; omega)), h.2.2.1.other _ _ (.inl (by have := h.2.2.2.2.1; simp; omega)), h.2.2.2.1.setCell (by simp) _, h.2.2.2.2.1, by simpa using h.2.2.2.2.2⟩
theorem MixInv.next {w : World} {m : Nat} {l z : List Int} {wr : World} (h : MixInv w m l z wr) (x : H8) : MixInv w wr.heap.size l x.vals (wr.alloc (Obj.cells #[.int .u32 x.a, .int .u32 x.b, .int .u32 x.c, .int .u32 x.d, .int .u32 x.e, .int .u32 x.f, .int .u32 x.g, .int .u32 x.h] 261)) := by
  have h1 := h.2.2.2.2.1
  have h2 := h.2.2.2.2.2
  exact ⟨h.1.alloc (by omega) _, h.2.1.alloc (by omega) _, arr_new wr .u32 x.vals 261 _ rfl, h.2.2.2.1.alloc (by omega) _, by omega, by simp⟩
theorem mix_start (w w1 W2 : World) (ws p l : List Int) (c : Array Value) (B : Nat) (hc : c = ((List.replicate 8 (0 : Int)).map (Value.int .u32)).toArray) (z : Array Value) (hz : z = ((List.replicate 64 (0 : Int)).map (Value.int .u32)).toArray)
    (hl : l.length = 64) (hK : KTab w) (hB : B = w.heap.size + 1 + 1 + 1)
    (hb : Below B (((w.alloc (Obj.cells (ws.map (Value.int .u32)).toArray 261)).alloc (Obj.cells (p.map (Value.int .u8)).toArray 262)).alloc (Obj.cells c 261)) w1)
    (hW : W2 = (w1.alloc (Obj.cells z 315)).setCells w1.heap.size 0 (l.map (Value.int .u32))) : MixInv w w1.heap.size ws l W2 ∧ KTab W2 := by
  subst hW hB
  have h0 : Arr (((w.alloc (Obj.cells (ws.map (Value.int .u32)).toArray 261)).alloc (Obj.cells (p.map (Value.int .u8)).toArray 262)).alloc (Obj.cells c 261)) w.heap.size 0 .u32 ws :=
    ((arr_new w .u32 ws 261 _ rfl).alloc (by simp) _).alloc (by simp; omega) _
  have h2 : Arr (((w.alloc (Obj.cells (ws.map (Value.int .u32)).toArray 261)).alloc (Obj.cells (p.map (Value.int .u8)).toArray 262)).alloc (Obj.cells c 261)) (w.heap.size + 1 + 1) 0 .u32 (List.replicate 8 0) := by
    have := arr_new ((w.alloc (Obj.cells (ws.map (Value.int .u32)).toArray 261)).alloc (Obj.cells (p.map (Value.int .u8)).toArray 262)) .u32 (List.replicate 8 0) 261 c hc
    simpa using this
  have hs := hb.size
  simp only [World.size_alloc] at hs
  have hbw : Below w.heap.size w ((w1.alloc (Obj.cells z 315)).setCells w1.heap.size 0 (l.map (Value.int .u32))) :=
    below_setCells (by omega) _ _ ((((((Below.refl _ w).alloc (Nat.le_refl _) _).alloc (by simp) _).alloc (by simp; omega) _).trans (hb.mono (by omega))).alloc (by omega) _)
  refine ⟨⟨((h0.below hb (by omega)).alloc (by omega) _).setCells_apart _ _ _ (.inl (by omega)), ((h2.below hb (by omega)).alloc (by omega) _).setCells_apart _ _ _ (.inl (by omega)), ?_, hbw, by omega, ?_⟩, hK.below hbw hK.1⟩
  · exact (arr_new w1 .u32 (List.replicate 64 0) 315 z hz).setCells l (by simp [hl])
  · rw [size_setCells]; simp

set_option maxRecDepth 100000 in
set_option maxHeartbeats 400000 in
theorem mixed_any (s : H8) (p : List Int) (hp : p.length = 64) (hb : Bytes p) (w : World) (hK : KTab w) :
    Calls Tryz.prog 198 #[.agg (s.vals.map (Value.int .u32)).toArray, .agg (p.map (Value.int .u8)).toArray] w fun e w' => e = .returned (.agg ((comp s p).vals.map (Value.int .u32)).toArray) ∧ Below w.heap.size w w' := by
  have HK := hide hK
  clear hK
  have HR := hide (fun A C => by
    have := ((arr_new (w.alloc A) .u8 p 262 _ rfl).alloc (by simp) C).range
    simpa using this : ∀ A C, (((w.alloc A).alloc (Obj.cells (p.map (Value.int .u8)).toArray 262)).alloc C).rangeAt (w.heap.size + 1) 0 (p.map (Value.int .u8)))
  have HN := hide (fun w1 => by
    have := (arr_new w1 .u32 (List.replicate 64 0) 315 _ rfl).there
    simpa [spr_len] using this : ∀ w1 : World, (w1.alloc (Obj.cells ((List.replicate 64 (0 : Int)).map (Value.int .u32)).toArray 315)).there w1.heap.size 0 ((spr p 64).map (Value.int .u32)).toArray.size)
  have HH := hide hb
  clear hb
  go_enter Tryz.func198, Tryz.ntmps198
  go_wp2_with (first
    | (refine wpList_load_mid rfl 262 (.tmp 3) rfl (w.heap.size + 1) 0 rfl _ _ (unhide HR _ _) Tryz.underlying262 rfl (by rw [size262, List.length_map, hp]) ?_)
    | (go_at_call 262; refine (spread_any p hp (unhide HH) _).mono ?_; rintro e w1 ⟨rfl, hb1⟩)
    | (refine wpList_store_to rfl 315 (.tmp 5) (.tmp 20) rfl w1.heap.size 0 _ rfl rfl (unhide HN w1) (by rw [size315]; simp [spr_len]) (one_ints _ _) ?_; intro W2 hW2; have HW2 := hide hW2; have HB1 := hide hb1; clear hW2 hb1))
  have hm := mix_start w w1 W2 s.vals p (spr p 64) _ _ rfl _ rfl (spr_len p 64) (unhide HK) (by simp) (unhide HB1) (unhide HW2)
  clear HW2 HB1 HN HR HK HH
  obtain ⟨hM, hK⟩ := hm
  have hsz := hM.2.2.2.2.1
  generalize w1.heap.size = m at *
  have c0 : W2.cell? ⟨w.heap.size, 0, none⟩ = some (.int .u32 s.a) := hM.1.get0 0 (by simp [H8.vals])
  have c1 : W2.cell? ⟨w.heap.size, 1, none⟩ = some (.int .u32 s.b) := hM.1.get0 1 (by simp [H8.vals])
  have c2 : W2.cell? ⟨w.heap.size, 2, none⟩ = some (.int .u32 s.c) := hM.1.get0 2 (by simp [H8.vals])
  have c3 : W2.cell? ⟨w.heap.size, 3, none⟩ = some (.int .u32 s.d) := hM.1.get0 3 (by simp [H8.vals])
  have c4 : W2.cell? ⟨w.heap.size, 4, none⟩ = some (.int .u32 s.e) := hM.1.get0 4 (by simp [H8.vals])
  have c5 : W2.cell? ⟨w.heap.size, 5, none⟩ = some (.int .u32 s.f) := hM.1.get0 5 (by simp [H8.vals])
  have c6 : W2.cell? ⟨w.heap.size, 6, none⟩ = some (.int .u32 s.g) := hM.1.get0 6 (by simp [H8.vals])
  have c7 : W2.cell? ⟨w.heap.size, 7, none⟩ = some (.int .u32 s.h) := hM.1.get0 7 (by simp [H8.vals])
  have HM := hide hM
  have HK := hide hK
  clear hM hK
  go_quiet (fail)
  go_wp2
  go_quiet (fail)
  go_wp2
  clear c0 c1 c2 c3 c4 c5 c6 c7
  go_loopw [37, 6, 7, 8, 9, 10, 11, 12, 13] (fun i a b c d e f g h wr => ∃ t : Nat, t ≤ 64 ∧ i = .int .i64 t ∧ ∃ x : H8, x = rnds s kWords (spr p 64) t ∧ a = .int .u32 x.a ∧ b = .int .u32 x.b ∧ c = .int .u32 x.c ∧ d = .int .u32 x.d ∧ e = .int .u32 x.e ∧ f = .int .u32 x.f ∧ g = .int .u32 x.g ∧ h = .int .u32 x.h ∧ MixInv w m s.vals (spr p 64) wr ∧ KTab wr) (fun i _ _ _ _ _ _ _ _ _ => 64 - (intOf i).toNat)
  case atStart => exact ⟨0, by omega, rfl, s, rfl, rfl, rfl, rfl, rfl, rfl, rfl, rfl, rfl, ((unhide HM).drewN _).drewN _, ktab_drewN (ktab_drewN (unhide HK) _) _⟩
  case round =>
    clear HM HK
    obtain ⟨t, ht, rfl, x, hx, rfl, rfl, rfl, rfl, rfl, rfl, rfl, rfl, hM, hK⟩ := hrel
    by_cases htl : t < 64
    · have ck := hK.2 t htl
      have cs := hM.2.2.1.get0 t (by rw [spr_len]; exact htl)
      obtain ⟨kt, hkt⟩ : ∃ z, z = kWords.getD t 0 := ⟨_, rfl⟩
      obtain ⟨st, hst⟩ : ∃ z, z = (spr p 64).getD t 0 := ⟨_, rfl⟩
      rw [← hkt] at ck
      rw [← hst] at cs
      have hr : rnds s kWords (spr p 64) (t + 1) = rnd x kt st := by rw [rnds, ← hx, hkt, hst]
      have HR := hide hr
      have HM := hide hM
      have HK := hide hK
      clear hr hM hK hx hkt hst
      obtain ⟨xa, xb, xc, xd, xe, xf, xg, xh⟩ := x
      go_wp2
      go_quiet ((go_at_call 263; exact Calls.quiet_of_same (hturned_any _ _ _ (by decide) (by decide))))
      go_wp2_with (go_at_call 263; refine (hturned_any _ _ _ (by decide) (by decide)).mono ?_; rintro e w' ⟨rfl, rfl⟩)
      go_roundw
      case rel =>
        refine ⟨t + 1, by omega, by go_num, rnd ⟨xa, xb, xc, xd, xe, xf, xg, xh⟩ kt st, (unhide HR).symm, congrArg (Value.int .u32) ?_, rfl, rfl, rfl, congrArg (Value.int .u32) ?_, rfl, rfl, rfl, (unhide HM).drewN _, ktab_drewN (unhide HK) _⟩
        · simp only [rnd, bigS1, bigS0, chv, majv, xr, nd, ad, max_u32]; omega
        · simp only [rnd, bigS1, chv, xr, nd, ad, max_u32]; omega
      case measure => simp [intOf]; omega
    · have e64 : t = 64 := by omega
      have HM := hide hM
      have HX := hide (show x = rnds s kWords (spr p 64) 64 by rw [hx, e64])
      clear hM hx e64 hK
      go_wp2
      go_loopw [109] (fun i wq => ∃ j : Nat, j ≤ 8 ∧ i = .int .i64 j ∧ MixInv w wr.heap.size ((List.zipWith ad s.vals x.vals).take j ++ s.vals.drop j) x.vals wq) (fun i _ => 8 - (intOf i).toNat)
      case atStart => exact ⟨0, by omega, rfl, by simpa using (unhide HM).next x⟩
      case round =>
        clear HM
        obtain ⟨j, hj, rfl, hM⟩ := hrel
        by_cases hjl : j < 8
        · have hlz : (List.zipWith ad s.vals x.vals).length = 8 := by simp [H8.vals]
          have hls : s.vals.length = 8 := by simp [H8.vals]
          have hlx : x.vals.length = 8 := by simp [H8.vals]
          have hll : ((List.zipWith ad s.vals x.vals).take j ++ s.vals.drop j).length = 8 := by simp [hls, hlx]; omega
          have c1 := hM.1.get0 j (by omega)
          have f1 := hM.1.free0 j (by omega)
          have c2 := hM.2.2.1.get0 j (by omega)
          rw [getD_take_drop _ _ _ (by omega)] at c1
          have hz : (List.zipWith ad s.vals x.vals).getD j 0 = ad (s.vals.getD j 0) (x.vals.getD j 0) := by
            simp [hls, hlx, hjl]
          have HE := hide (take_set (List.zipWith ad s.vals x.vals) s.vals j _ (by omega) (by omega) rfl)
          rw [hz] at HE
          obtain ⟨y1, h1⟩ : ∃ z, z = s.vals.getD j 0 := ⟨_, rfl⟩
          obtain ⟨y2, h2⟩ : ∃ z, z = x.vals.getD j 0 := ⟨_, rfl⟩
          rw [← h1] at c1
          rw [← h2] at c2
          rw [← h1, ← h2] at HE
          have HM := hide hM
          have HL := hide hll
          clear hM hz h1 h2 hlz hls hlx hll
          go_wp2
          go_region
          go_wp2
          go_roundw
          case rel => exact ⟨j + 1, by omega, by go_num, (((unhide HM).put j (by rw [unhide HL]; exact hjl) _ (unhide HE))).drew⟩
          case measure => simp [intOf]; omega
        · have e8 : j = 8 := by omega
          rw [e8] at hM
          have hfin : (List.zipWith ad s.vals x.vals).take 8 ++ s.vals.drop 8 = (comp s p).vals := by
            rw [comp, ← unhide HX, add8_vals]; simp [H8.vals]
          rw [hfin] at hM
          clear e8 hfin
          have hr := hide hM.1.range
          have ht := hide hM.2.1.there
          have HB := hide hM.2.2.2.1
          clear hM
          go_wp2_with (first
            | (refine wpList_load_mid rfl 261 (.tmp 2) rfl w.heap.size 0 rfl _ _ (unhide hr) Tryz.underlying261 rfl (by rw [size261]; simp [H8.vals]) ?_)
            | (refine wpList_store_mid rfl 261 (.tmp 4) (.tmp 121) rfl (w.heap.size + 1 + 1) 0 _ rfl rfl (by simpa [H8.vals] using unhide ht) (by rw [size261]; simp [H8.vals]) (one_ints _ _) ?_))
          have hld := run_loadVar_mid (P := Tryz.prog) _ (w.heap.size + 1 + 1) 0 261 _ _ (World.rangeAt_setCells_same wr (w.heap.size + 1 + 1) 0 ((comp s p).vals.map (Value.int .u32)) (by simpa [H8.vals] using unhide ht)) Tryz.underlying261 rfl (by rw [size261]; simp [H8.vals])
          refine bodyPost_ret (v := .agg ((comp s p).vals.map (Value.int .u32)).toArray) ?_ rfl ⟨rfl, below_setCells (by omega) _ _ (unhide HB)⟩
          exact results_cell rfl _ _ _ ⟨w.heap.size + 1 + 1, 0, none⟩ rfl _ hld
end Go.Proofs.YtdpnbemagiekoaaGreatDoor
