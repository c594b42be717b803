/- Memory of AES: the box in a block, a text turned byte by byte. -/
import Derived.Test.YtepnnmckbcomjaaDoorAesMath
import Derived.Test.YtepnnmckbcomjaaDoorMade
import Derived.WalkKit
import Derived.WalkSpells
import Derived.WalkLawsBesides
import Derived.Deep.RegionLaw
import Derived.Lib.Hide
namespace Go.Proofs.YtepnnmckbcomjaaDoor
open Go.RowKit Go.Proofs.YtepnnmckbcomjaaDoor.Hexa Go.Proofs.YtepnnmckbcomjaaDoor.Byt Go.Proofs.YtepnnmckbcomjaaDoor.Aes

/-- The cells of the box. -/
def boxCells : Array Value := (bcells boxTab).toArray
theorem cell_byte {w : World} {g : Nat} {l : List UInt8} {t : TypeId} {fr : Nat × Nat} (h : w.heap[g]? = some (.cells (bcells l).toArray t fr)) (k : Nat) (x : UInt8) (hk : l[k]? = some x) : w.cell? ⟨g, k, none⟩ = some (.int .u8 x.toNat) := by
  simp [World.cell?, h, bcells, hk]
theorem cell_box {w : World} {g : Nat} {t : TypeId} {fr : Nat × Nat} (h : w.heap[g]? = some (.cells boxCells t fr)) (x : UInt8) : w.cell? ⟨g, x.toNat, none⟩ = some (.int .u8 (boxU x).toNat) :=
  cell_byte h x.toNat _ (boxTab_at x)

/-- A text whose first k bytes are turned. -/
def turnT (f : UInt8 → UInt8) (l : List UInt8) (k : Nat) : List UInt8 := (l.take k).map f ++ l.drop k
theorem turnT_length (f : UInt8 → UInt8) (l : List UInt8) (k : Nat) : (turnT f l k).length = l.length := by
  unfold turnT; rw [List.length_append, List.length_map, List.length_take, List.length_drop]; omega
theorem turnT_at (f : UInt8 → UInt8) (l : List UInt8) (k : Nat) (h : k < l.length) : (turnT f l k)[k]? = some l[k] := by
  have e : ((l.take k).map f).length = k := by rw [List.length_map, List.length_take]; omega
  unfold turnT
  rw [List.getElem?_append_right (by omega), e, Nat.sub_self, List.getElem?_drop]
  simp [h]
theorem turnT_set (f : UInt8 → UInt8) (l : List UInt8) (k : Nat) (h : k < l.length) : (turnT f l k).set k (f l[k]) = turnT f l (k + 1) := by
  have e : ((l.take k).map f).length = k := by rw [List.length_map, List.length_take]; omega
  unfold turnT
  rw [List.set_append_right _ _ (by omega), e, Nat.sub_self, List.take_succ_eq_append_getElem h, List.drop_eq_getElem_cons h, List.set_cons_zero, List.map_append, List.append_assoc]
  rfl
theorem turnT_all (f : UInt8 → UInt8) (l : List UInt8) : turnT f l l.length = l.map f := by simp [turnT]
theorem turnT_zero (f : UInt8 → UInt8) (l : List UInt8) : turnT f l 0 = l := by simp [turnT]

/-- The first p bytes that a function of the place gives. -/
def mapTo (f : Nat → UInt8) (p : Nat) : List UInt8 := (List.range p).map f
theorem mapTo_length (f : Nat → UInt8) (p : Nat) : (mapTo f p).length = p := by simp [mapTo]
theorem mapTo_next (f : Nat → UInt8) (p : Nat) : mapTo f p ++ [f p] = mapTo f (p + 1) := by simp [mapTo, List.range_succ]
theorem text_at (s : ByteArray) (i : Nat) (h : i < s.size) : s[i]'h = s.data.toList.getD i 0 := by
  have h2 : i < s.data.toList.length := by simpa using h
  rw [List.getD, List.getElem?_eq_getElem h2]
  rfl
end Go.Proofs.YtepnnmckbcomjaaDoor
