/- Keyed hashes of the drawn texts under the drawn keys, in lanes: the reckoning. -/
import Derived.Test.YtbojcphcjggccaaDoorMarksSimd
namespace Go.Proofs.YtbojcphcjggccaaDoor.Simd
open Go.Proofs.YtbojcphcjggccaaDoor.Sha Go.Proofs.YtbojcphcjggccaaDoor.Hexa Go.Proofs.YtbojcphcjggccaaDoor.Byt

/-- Four bytes a word. -/
def pack : List UInt8 → List UInt32
  | a :: b :: c :: d :: r => UInt32.ofNat (Nat.add (Nat.add (Nat.add (Nat.mul a.toNat 16777216) (Nat.mul b.toNat 65536)) (Nat.mul c.toNat 256)) d.toNat) :: pack r
  | _ => []
/-- The blocks behind a first one: the text, its end and its length. -/
def tailP (t : List UInt8) : List UInt8 := t ++ [128] ++ List.replicate (Pad.zer t.length) 0 ++ Pad.lenB (8 * (64 + t.length)) 8
/-- A block of one text in every lane. -/
def blkW (o m : Nat) (S : S8) (ws : List UInt32) : S8 :=
  blk o m klN S (Nat.mul o (ws.getD 0 0).toNat) (Nat.mul o (ws.getD 1 0).toNat) (Nat.mul o (ws.getD 2 0).toNat) (Nat.mul o (ws.getD 3 0).toNat) (Nat.mul o (ws.getD 4 0).toNat) (Nat.mul o (ws.getD 5 0).toNat) (Nat.mul o (ws.getD 6 0).toNat) (Nat.mul o (ws.getD 7 0).toNat) (Nat.mul o (ws.getD 8 0).toNat) (Nat.mul o (ws.getD 9 0).toNat) (Nat.mul o (ws.getD 10 0).toNat) (Nat.mul o (ws.getD 11 0).toNat) (Nat.mul o (ws.getD 12 0).toNat) (Nat.mul o (ws.getD 13 0).toNat) (Nat.mul o (ws.getD 14 0).toNat) (Nat.mul o (ws.getD 15 0).toNat)
/-- Blocks of words in lanes. -/
def blkF (o m : Nat) (S : S8) (W : Nat → Nat) : S8 := blk o m klN S (W 0) (W 1) (W 2) (W 3) (W 4) (W 5) (W 6) (W 7) (W 8) (W 9) (W 10) (W 11) (W 12) (W 13) (W 14) (W 15)
def innV (o m : Nat) (I : S8) (t : List UInt8) : S8 :=
  bif Nat.ble t.length 55 then blkW o m I (pack (tailP t)) else blkW o m (blkW o m I ((pack (tailP t)).take 16)) ((pack (tailP t)).drop 16)
def outV (o m : Nat) (O q : S8) : S8 :=
  blk o m klN O q.a q.b q.c q.d q.e q.f q.g q.h (Nat.mul o 2147483648) (Nat.mul o 0) (Nat.mul o 0) (Nat.mul o 0) (Nat.mul o 0) (Nat.mul o 0) (Nat.mul o 0) (Nat.mul o 768)
def oneOk (o m : Nat) (I O : S8) (t : List UInt8) : Bool := apart o m (outV o m O (innV o m I t)).a (outV o m O (innV o m I (t ++ [97]))).a
/-- The drawn texts. -/
def pres : List (List UInt8) := [[], [97], [72, 105, 32, 84, 104, 101, 114, 101], [119, 104, 97, 116, 32, 100, 111, 32, 121, 97, 32, 119, 97, 110, 116, 32, 102, 111, 114, 32, 110, 111, 116, 104, 105, 110, 103, 63]]
def drawT (q j : Nat) : List UInt8 := pres.getD q [] ++ List.replicate j 7
def runOk (o m : Nat) (I O : S8) (q : Nat) : Nat → Nat → Bool
  | 0, _ => true
  | c + 1, j => and (oneOk o m I O (drawT q j)) (runOk o m I O q c (Nat.succ j))

/-- The place of a key's bytes in a word. -/
def padW (n j : Nat) : Nat := (if 4 * j < n then 16777216 else 0) + (if 4 * j + 1 < n then 65536 else 0) + (if 4 * j + 2 < n then 256 else 0) + (if 4 * j + 3 < n then 1 else 0)
def S8.at (S : S8) : Nat → Nat
  | 0 => S.a
  | 1 => S.b
  | 2 => S.c
  | 3 => S.d
  | 4 => S.e
  | 5 => S.f
  | 6 => S.g
  | 7 => S.h
  | _ => 0
/-- A short key's words, and a long key's, in 256 lanes: the byte is the lane. -/
def shortV (n j : Nat) : Nat := Nat.mul (iota 0 8) (padW n j)
def digV (n : Nat) : S8 :=
  blkF (ones 8) (Nat.mul (ones 8) 4294967295) (blkF (ones 8) (Nat.mul (ones 8) 4294967295) (bc (ones 8) firstS) (shortV 64)) (fun j => Nat.add (shortV (n - 64) j) (Nat.mul (ones 8) ((pack (tailP (List.replicate (n - 64) 0))).getD j 0).toNat))
def keyV (n j : Nat) : Nat := bif Nat.ble n 64 then shortV n j else S8.at (digV n) j
def midL (n c : Nat) : S8 := blkF (ones 8) (Nat.mul (ones 8) 4294967295) (bc (ones 8) firstS) (fun j => Nat.xor (keyV n j) (Nat.mul (ones 8) c))
/-- Lots of lanes behind each other. -/
def join (q : Nat) : List Nat → Nat
  | [] => 0
  | x :: xs => Nat.add x (Nat.mul (join q xs) (Nat.pow 2 (Nat.mul 64 q)))
def joinS (q : Nat) (L : List S8) : S8 := ⟨join q (L.map (·.a)), join q (L.map (·.b)), join q (L.map (·.c)), join q (L.map (·.d)), join q (L.map (·.e)), join q (L.map (·.f)), join q (L.map (·.g)), join q (L.map (·.h))⟩
def keyNs : List Nat := [0, 1, 20, 32, 63, 64, 65, 100]
/-- What is asked of c texts from the j-th on, under all drawn keys. -/
def marksOk (q c j : Nat) : Bool :=
  let I := joinS 256 (keyNs.map fun n => midL n 909522486)
  let O := joinS 256 (keyNs.map fun n => midL n 1549556828)
  runOk (ones 11) (Nat.mul (ones 11) 4294967295) I O q c j
end Go.Proofs.YtbojcphcjggccaaDoor.Simd
