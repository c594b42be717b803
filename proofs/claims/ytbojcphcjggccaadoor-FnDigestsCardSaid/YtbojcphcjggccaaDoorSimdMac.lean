/- Keyed hashes in many lanes at once: the reckoning. -/
import Derived.Test.YtbojcphcjggccaaDoorSimdSha
import Derived.Test.YtbojcphcjggccaaDoorShaFirst
namespace Go.Proofs.YtbojcphcjggccaaDoor.Simd
open Go.Proofs.YtbojcphcjggccaaDoor.Sha

def klN : List Nat := [1116352408, 1899447441, 3049323471, 3921009573, 961987163, 1508970993, 2453635748, 2870763221, 3624381080, 310598401, 607225278, 1426881987, 1925078388, 2162078206, 2614888103, 3248222580, 3835390401, 4022224774, 264347078, 604807628, 770255983, 1249150122, 1555081692, 1996064986, 2554220882, 2821834349, 2952996808, 3210313671, 3336571891, 3584528711, 113926993, 338241895, 666307205, 773529912, 1294757372, 1396182291, 1695183700, 1986661051, 2177026350, 2456956037, 2730485921, 2820302411, 3259730800, 3345764771, 3516065817, 3600352804, 4094571909, 275423344, 430227734, 506948616, 659060556, 883997877, 958139571, 1322822218, 1537002063, 1747873779, 1955562222, 2024104815, 2227730452, 2361852424, 2428436474, 2756734187, 3204031479, 3329325298]
/-- One state in every lane. -/
def bc (o : Nat) (S : St8) : S8 := ⟨Nat.mul o S.a.toNat, Nat.mul o S.b.toNat, Nat.mul o S.c.toNat, Nat.mul o S.d.toNat, Nat.mul o S.e.toNat, Nat.mul o S.f.toNat, Nat.mul o S.g.toNat, Nat.mul o S.h.toNat⟩
/-- A keyed hash in lanes, from the two states behind the key. -/
def macV (o m : Nat) (I O : S8) (w0 w1 w15 : Nat) : S8 :=
  let q := blk o m klN I w0 w1 (Nat.mul o 0) (Nat.mul o 0) (Nat.mul o 0) (Nat.mul o 0) (Nat.mul o 0) (Nat.mul o 0) (Nat.mul o 0) (Nat.mul o 0) (Nat.mul o 0) (Nat.mul o 0) (Nat.mul o 0) (Nat.mul o 0) (Nat.mul o 0) w15
  blk o m klN O q.a q.b q.c q.d q.e q.f q.g q.h (Nat.mul o 2147483648) (Nat.mul o 0) (Nat.mul o 0) (Nat.mul o 0) (Nat.mul o 0) (Nat.mul o 0) (Nat.mul o 0) (Nat.mul o 768)
/-- The state behind a key of two words. -/
def midV (o m a b c : Nat) : S8 :=
  blk o m klN (bc o firstS) (Nat.xor a (Nat.mul o c)) (Nat.xor b (Nat.mul o c)) (Nat.mul o c) (Nat.mul o c) (Nat.mul o c) (Nat.mul o c) (Nat.mul o c) (Nat.mul o c) (Nat.mul o c) (Nat.mul o c) (Nat.mul o c) (Nat.mul o c) (Nat.mul o c) (Nat.mul o c) (Nat.mul o c) (Nat.mul o c)
/-- No lane of the two is alike. -/
def apart (o m x y : Nat) : Bool := Nat.beq (Nat.land (Nat.add (Nat.xor x y) m) (Nat.mul o 4294967296)) (Nat.mul o 4294967296)
/-- What is asked of the keys of a file, over 2 ^ p generations from g on. -/
def keysOk (p : Nat) (I O I2 O2 : St8) (i g : Nat) : Bool :=
  let o := ones p
  let m := Nat.mul o 4294967295
  let G := iota g p
  let k0 := Nat.mul o (Nat.add 1801812224 i)
  let k1 := Nat.add (Nat.mul G 65536) (Nat.mul o 32768)
  let v0 := Nat.mul o 2003984752
  let v1 := Nat.add (Nat.mul G 256) (Nat.mul o (Nat.add (Nat.mul i 16777216) 128))
  let F := macV o m (bc o I) (bc o O) k0 k1 (Nat.mul o 560)
  let W := macV o m (bc o I) (bc o O) v0 v1 (Nat.mul o 568)
  let F2 := macV o m (bc o I2) (bc o O2) k0 k1 (Nat.mul o 560)
  let W2 := macV o m (bc o I2) (bc o O2) v0 v1 (Nat.mul o 568)
  let A := midV o m F.a F.b 909522486
  let B := midV o m F.a F.b 1549556828
  let Q := macV o m A B (Nat.mul o 1885431653) (Nat.mul o 2147483648) (Nat.mul o 544)
  let R := macV o m A B (Nat.mul o 1835102827) (Nat.mul o 2147483648) (Nat.mul o 544)
  and (apart o m F.a W.a) (and (apart o m F.a (Nat.shiftRight F.a 64)) (and (apart o m (Nat.xor F.a W.a) (Nat.shiftRight (Nat.xor F.a W.a) 64)) (and (apart o m (Nat.xor F.a W.a) (Nat.xor F2.a W2.a)) (apart o m Q.a R.a))))
end Go.Proofs.YtbojcphcjggccaaDoor.Simd
