import Derived.WalkKit
namespace Go.Proofs.YtilhilglokblpaaDoor
open Go.RowKit

/-- Eight words. -/
structure H8 where
  a : Int
  b : Int
  c : Int
  d : Int
  e : Int
  f : Int
  g : Int
  h : Int

def rotr (x n : Int) : Int := bits .or .u32 (x / 2 ^ n.toNat) (IntKind.u32.wrap (x * 2 ^ (32 - n).toNat))
def xr (x y : Int) : Int := bits .xor .u32 x y
def nd (x y : Int) : Int := bits .and .u32 x y
def ad (x y : Int) : Int := (x + y) % 4294967296
def bigS1 (e : Int) : Int := xr (xr (rotr e 6) (rotr e 11)) (rotr e 25)
def bigS0 (a : Int) : Int := xr (xr (rotr a 2) (rotr a 13)) (rotr a 22)
def chv (e f g : Int) : Int := xr (nd e f) (nd (bits .xor .u32 4294967295 e) g)
def majv (a b c : Int) : Int := xr (xr (nd a b) (nd a c)) (nd b c)
def sm1 (x : Int) : Int := xr (xr (rotr x 17) (rotr x 19)) (x / 1024)
def sm0 (y : Int) : Int := xr (xr (rotr y 7) (rotr y 18)) (y / 8)
def word (p : List Int) (t : Nat) : Int := ((p.getD (4 * t) 0 * 256 + p.getD (4 * t + 1) 0) * 256 + p.getD (4 * t + 2) 0) * 256 + p.getD (4 * t + 3) 0
def nextW (l : List Int) (t : Nat) : Int := ad (ad (ad (sm1 (l.getD (t - 2) 0)) (l.getD (t - 7) 0)) (sm0 (l.getD (t - 15) 0))) (l.getD (t - 16) 0)
/-- The first t words of the spread piece. -/
def spr (p : List Int) : Nat → List Int
  | 0 => []
  | t + 1 => spr p t ++ [if t < 16 then word p t else nextW (spr p t) t]
def rnd (s : H8) (k w : Int) : H8 :=
  let t1 := ad (ad (ad (ad s.h (bigS1 s.e)) (chv s.e s.f s.g)) k) w
  let t2 := ad (bigS0 s.a) (majv s.a s.b s.c)
  ⟨ad t1 t2, s.a, s.b, s.c, ad s.d t1, s.e, s.f, s.g⟩
def rnds (s : H8) (ks ws : List Int) : Nat → H8
  | 0 => s
  | n + 1 => rnd (rnds s ks ws n) (ks.getD n 0) (ws.getD n 0)
def add8 (s t : H8) : H8 := ⟨ad s.a t.a, ad s.b t.b, ad s.c t.c, ad s.d t.d, ad s.e t.e, ad s.f t.f, ad s.g t.g, ad s.h t.h⟩
def kWords : List Int := [1116352408, 1899447441, 3049323471, 3921009573, 961987163, 1508970993, 2453635748, 2870763221, 3624381080, 310598401, 607225278, 1426881987, 1925078388, 2162078206, 2614888103, 3248222580, 3835390401, 4022224774, 264347078, 604807628, 770255983, 1249150122, 1555081692, 1996064986, 2554220882, 2821834349, 2952996808, 3210313671, 3336571891, 3584528711, 113926993, 338241895, 666307205, 773529912, 1294757372, 1396182291, 1695183700, 1986661051, 2177026350, 2456956037, 2730485921, 2820302411, 3259730800, 3345764771, 3516065817, 3600352804, 4094571909, 275423344, 430227734, 506948616, 659060556, 883997877, 958139571, 1322822218, 1537002063, 1747873779, 1955562222, 2024104815, 2227730452, 2361852424, 2428436474, 2756734187, 3204031479, 3329325298]
def comp (s : H8) (p : List Int) : H8 := add8 s (rnds s kWords (spr p 64) 64)
def start8 : H8 := ⟨0x6a09e667, 0xbb67ae85, 0x3c6ef372, 0xa54ff53a, 0x510e527f, 0x9b05688c, 0x1f83d9ab, 0x5be0cd19⟩
def padded (l : List Int) : List Int := l ++ [128] ++ List.replicate ((119 - l.length % 64) % 64) 0 ++ (List.range 8).map (fun i => (8 * (l.length : Int)) / 2 ^ (8 * (7 - i)) % 256)
/-- n pieces of a filled text are gone through. -/
def comps (s : H8) (l : List Int) : Nat → H8
  | 0 => s
  | n + 1 => comp (comps s l n) ((l.drop (64 * n)).take 64)
def out4 (x : Int) : List Int := [x / 2 ^ 24 % 256, x / 2 ^ 16 % 256, x / 2 ^ 8 % 256, x % 256]
def outBytes (s : H8) : List Int := out4 s.a ++ out4 s.b ++ out4 s.c ++ out4 s.d ++ out4 s.e ++ out4 s.f ++ out4 s.g ++ out4 s.h
def sha (l : List Int) : List Int := outBytes (comps start8 (padded l) ((padded l).length / 64))
end Go.Proofs.YtilhilglokblpaaDoor
