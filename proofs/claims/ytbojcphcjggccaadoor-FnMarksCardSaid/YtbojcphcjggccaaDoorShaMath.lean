/- SHA-256 in plain words: 32-bit words behind one name, a round, the schedule, a block. -/
import Derived.Test.YtbojcphcjggccaaDoorRows
import Derived.Laws.Bits64b
import Derived.IntWalk
import Derived.Below
namespace Go.Proofs.YtbojcphcjggccaaDoor.Sha
open Go.RowKit

/-- A 32-bit word as the walk holds it, behind a name that nothing unfolds. -/
def u (x : UInt32) : Int := x.toNat
theorem u_bd (x : UInt32) : 0 ≤ u x ∧ u x < 4294967296 := by have := x.toNat_lt; unfold u; omega

theorem u_of (n : Nat) : u (UInt32.ofNat n) = ((n % 4294967296 : Nat) : Int) := by unfold u; rw [UInt32.toNat_ofNat']
theorem bv_u (x : UInt32) : BitVec.ofInt 32 (u x) = x.toBitVec := by
  apply BitVec.eq_of_toNat_eq
  have := x.toNat_lt
  unfold u
  rw [BitVec.ofInt_natCast, BitVec.toNat_ofNat]
  exact Nat.mod_eq_of_lt (by simpa using this)
theorem wrap_u (x : UInt32) : IntKind.u32.wrap (u x) = u x := by
  have := u_bd x
  rw [IntWalk.u32_in _ (by omega)]
theorem wrap_bv (b : BitVec 32) : IntKind.u32.wrap (b.toNat : Int) = u ⟨b⟩ := wrap_u ⟨b⟩

theorem xor_u (a b : UInt32) : bits .xor .u32 (u a) (u b) = u (a ^^^ b) := by
  show IntKind.u32.wrap ((BitVec.ofInt 32 (u a) ^^^ BitVec.ofInt 32 (u b)).toNat : Int) = _
  rw [bv_u, bv_u, wrap_bv]; rfl
theorem and_u (a b : UInt32) : bits .and .u32 (u a) (u b) = u (a &&& b) := by
  show IntKind.u32.wrap ((BitVec.ofInt 32 (u a) &&& BitVec.ofInt 32 (u b)).toNat : Int) = _
  rw [bv_u, bv_u, wrap_bv]; rfl
theorem or_u (a b : UInt32) : bits .or .u32 (u a) (u b) = u (a ||| b) := by
  show IntKind.u32.wrap ((BitVec.ofInt 32 (u a) ||| BitVec.ofInt 32 (u b)).toNat : Int) = _
  rw [bv_u, bv_u, wrap_bv]; rfl
theorem add_u (a b : UInt32) : (u a + u b) % 4294967296 = u (a + b) := by
  unfold u; rw [UInt32.toNat_add]; omega
/-- Shifted right by k places. -/
def sr (x : UInt32) (k : Nat) : UInt32 := UInt32.ofNat (x.toNat / 2 ^ k)
/-- Shifted left by k places. -/
def sl (x : UInt32) (k : Nat) : UInt32 := UInt32.ofNat (x.toNat * 2 ^ k)
theorem sr_u (x : UInt32) (k : Nat) : u x / ((2 ^ k : Nat) : Int) = u (sr x k) := by
  have h1 := x.toNat_lt
  have h2 : x.toNat / 2 ^ k ≤ x.toNat := Nat.div_le_self _ _
  unfold sr
  rw [u_of, Nat.mod_eq_of_lt (by omega)]
  unfold u
  exact (Int.natCast_ediv _ _).symm
theorem sl_u (x : UInt32) (k : Nat) : u x * ((2 ^ k : Nat) : Int) % 4294967296 = u (sl x k) := by
  unfold sl
  rw [u_of]
  unfold u
  rw [Int.natCast_emod, Int.natCast_mul]; rfl
def turn (x : UInt32) (n : Nat) : UInt32 := sr x n ||| sl x (32 - n)
theorem turn_u (x : UInt32) (n : Nat) : bits .or .u32 (u x / 2 ^ n) (u x * 2 ^ (32 - n) % 4294967296) = u (turn x n) := by
  have e1 : u x / 2 ^ n = u (sr x n) := by rw [← sr_u]; simp
  have e2 : u x * 2 ^ (32 - n) % 4294967296 = u (sl x (32 - n)) := by rw [← sl_u]; simp
  rw [e1, e2, or_u]; rfl

/-- A byte as a word. -/
def ub (c : UInt8) : UInt32 := c.toUInt32
theorem ub_u (c : UInt8) : (c.toNat : Int) = u (ub c) := by unfold u ub; simp
theorem or_low (a : UInt32) (c : UInt8) : bits .or .u32 (u a) (c.toNat : Int) = u (a ||| ub c) := by rw [ub_u, or_u]
theorem sl_byte (c : UInt8) (k : Nat) : (c.toNat : Int) * ((2 ^ k : Nat) : Int) % 4294967296 = u (sl (ub c) k) := by rw [ub_u, sl_u]
def byteW (s : ByteArray) (i : Nat) : UInt32 := ub (s.data.toList.getD i 0)
theorem byteW_at (s : ByteArray) (i : Nat) (h : i < s.size) : ((s[i]'h).toNat : Int) = u (byteW s i) := by
  have h' : i < s.data.toList.length := by simpa using h
  rw [ub_u]; unfold byteW
  simp only [List.getD, List.getElem?_eq_getElem h', Option.getD_some]; rfl
/-- Word j of a block. -/
def word (s : ByteArray) (j : Nat) : UInt32 := sl (byteW s (4 * j)) 24 ||| sl (byteW s (4 * j + 1)) 16 ||| sl (byteW s (4 * j + 2)) 8 ||| byteW s (4 * j + 3)

theorem mod_u (x : UInt32) : u x % 4294967296 = u x := by have := u_bd x; omega
theorem word_u (x0 x1 x2 x3 : UInt32) :
    bits .or .u32 (bits .or .u32 (bits .or .u32 (u x0 % 4294967296 * 16777216 % 4294967296) (u x1 % 4294967296 * 65536 % 4294967296)) (u x2 % 4294967296 * 256 % 4294967296)) (u x3 % 4294967296) = u (sl x0 24 ||| sl x1 16 ||| sl x2 8 ||| x3) := by
  have h24 := sl_u x0 24
  have h16 := sl_u x1 16
  have h8 := sl_u x2 8
  simp only [show ((2 ^ 24 : Nat) : Int) = 16777216 from rfl, show ((2 ^ 16 : Nat) : Int) = 65536 from rfl, show ((2 ^ 8 : Nat) : Int) = 256 from rfl] at h24 h16 h8
  rw [mod_u, mod_u, mod_u, mod_u, h24, h16, h8, or_u, or_u, or_u]

/-- A row of words as cells. -/
def wcells (xs : List UInt32) : Array Value := (xs.map fun x => Value.int .u32 (u x)).toArray

def sig0 (x : UInt32) : UInt32 := turn x 7 ^^^ turn x 18 ^^^ sr x 3
def sig1 (x : UInt32) : UInt32 := turn x 17 ^^^ turn x 19 ^^^ sr x 10
/-- Word j of the schedule. -/
def sch (s : ByteArray) (j : Nat) : UInt32 :=
  if _h : j < 16 then word s j else sch s (j - 16) + sig0 (sch s (j - 15)) + sch s (j - 7) + sig1 (sch s (j - 2))
termination_by j
decreasing_by all_goals omega
theorem sch_low (s : ByteArray) (j : Nat) (h : j < 16) : sch s j = word s j := by rw [sch, dif_pos h]
theorem sch_high (s : ByteArray) (j : Nat) (h : 16 ≤ j) : sch s j = sch s (j - 16) + sig0 (sch s (j - 15)) + sch s (j - 7) + sig1 (sch s (j - 2)) := by rw [sch, dif_neg (by omega)]
theorem sr3_u (x : UInt32) : u x / 8 = u (sr x 3) := sr_u x 3
theorem sr10_u (x : UInt32) : u x / 1024 = u (sr x 10) := sr_u x 10
theorem add_w (a b : UInt32) : IntKind.u32.wrap (u a + u b) = u (a + b) := by rw [IntKind.wrap_u32, add_u]

/-- One word more of a row that is known up to k. -/
theorem row_next {f : Nat → UInt32} {xs : List UInt32} {k : Nat} {x : UInt32} (h : ∀ j, j < k → xs[j]? = some (f j)) (hk : k < xs.length) (e : x = f k) : ∀ j, j < k + 1 → (xs.set k x)[j]? = some (f j) := fun j hj => by
  by_cases hjk : j = k
  · rw [hjk, List.getElem?_set_self hk, e]
  · rw [List.getElem?_set_ne (by omega)]; exact h j (by omega)

/-- The eight words of a state. -/
structure St8 where
  a : UInt32
  b : UInt32
  c : UInt32
  d : UInt32
  e : UInt32
  f : UInt32
  g : UInt32
  h : UInt32
def St8.cells (s : St8) : Array Value := #[.int .u32 (u s.a), .int .u32 (u s.b), .int .u32 (u s.c), .int .u32 (u s.d), .int .u32 (u s.e), .int .u32 (u s.f), .int .u32 (u s.g), .int .u32 (u s.h)]
def bigE (x : UInt32) : UInt32 := turn x 6 ^^^ turn x 11 ^^^ turn x 25
def bigA (x : UInt32) : UInt32 := turn x 2 ^^^ turn x 13 ^^^ turn x 22
def chF (e f g : UInt32) : UInt32 := e &&& f ^^^ (e ^^^ 4294967295) &&& g
def majF (a b c : UInt32) : UInt32 := a &&& b ^^^ a &&& c ^^^ b &&& c
/-- A round. -/
def rnd (s : St8) (key word : UInt32) : St8 :=
  ⟨s.h + bigE s.e + chF s.e s.f s.g + key + word + (bigA s.a + majF s.a s.b s.c), s.a, s.b, s.c, s.d + (s.h + bigE s.e + chF s.e s.f s.g + key + word), s.e, s.f, s.g⟩
def rounds (s : St8) (ks : List UInt32) (t : ByteArray) : Nat → St8
  | 0 => s
  | k + 1 => rnd (rounds s ks t k) (ks.getD k 0) (sch t k)

theorem xorc_u (x : UInt32) : bits .xor .u32 (u x) 4294967295 = u (x ^^^ 4294967295) := xor_u x 4294967295

theorem eight_sets {w : World} {q : Nat} {R : St8} {t : TypeId} (h : w.heap[q]? = some (.cells R.cells t (0, 0))) (v0 v1 v2 v3 v4 v5 v6 v7 : Value) :
    ((((((((w.setCell ⟨q, 7, none⟩ v7).setCell ⟨q, 6, none⟩ v6).setCell ⟨q, 5, none⟩ v5).setCell ⟨q, 4, none⟩ v4).setCell ⟨q, 3, none⟩ v3).setCell ⟨q, 2, none⟩ v2).setCell ⟨q, 1, none⟩ v1).setCell ⟨q, 0, none⟩ v0).heap[q]? = some (.cells #[v0, v1, v2, v3, v4, v5, v6, v7] t (0, 0)) := by
  have e : (((((((((R.cells.setIfInBounds 7 v7).setIfInBounds 6 v6).setIfInBounds 5 v5).setIfInBounds 4 v4).setIfInBounds 3 v3).setIfInBounds 2 v2).setIfInBounds 1 v1).setIfInBounds 0 v0)) = #[v0, v1, v2, v3, v4, v5, v6, v7] := by
    simp [St8.cells]
  rw [← e]
  generalize R.cells = cs at h
  exact heap_setCell_same _ q 0 _ t v0 (heap_setCell_same _ q 1 _ t v1 (heap_setCell_same _ q 2 _ t v2 (heap_setCell_same _ q 3 _ t v3 (heap_setCell_same _ q 4 _ t v4 (heap_setCell_same _ q 5 _ t v5 (heap_setCell_same _ q 6 _ t v6 (heap_setCell_same w q 7 cs t v7 h)))))))

theorem cell_words {w : World} {g : Nat} {xs : List UInt32} {t : TypeId} {fr : Nat × Nat} (h : w.heap[g]? = some (.cells (wcells xs) t fr)) (k : Nat) (hk : k < xs.length) : w.cell? ⟨g, k, none⟩ = some (.int .u32 (u xs[k])) := by
  simp [World.cell?, h, wcells, hk]
theorem free_words {w : World} {g : Nat} {cs : Array Value} {t : TypeId} (h : w.heap[g]? = some (.cells cs t (0, 0))) (k : Nat) : w.frozen? ⟨g, k, none⟩ = false := by
  simp [World.frozen?, h]
theorem set_words {w : World} {g k : Nat} {xs : List UInt32} {t : TypeId} (h : w.heap[g]? = some (.cells (wcells xs) t (0, 0))) (x : UInt32) :
    (w.setCell ⟨g, k, none⟩ (.int .u32 (u x))).heap[g]? = some (.cells (wcells (xs.set k x)) t (0, 0)) := by
  rw [heap_setCell_same w g k _ t _ h]
  congr 2
  apply Array.toList_inj.1
  simp [wcells, List.map_set]

def St8.list (s : St8) : List UInt32 := [s.a, s.b, s.c, s.d, s.e, s.f, s.g, s.h]
def addS (S R : St8) : St8 := ⟨S.a + R.a, S.b + R.b, S.c + R.c, S.d + R.d, S.e + R.e, S.f + R.f, S.g + R.g, S.h + R.h⟩
/-- The state behind a block. -/
def blockS (S : St8) (ks : List UInt32) (t : ByteArray) : St8 := addS S (rounds S ks t 64)
theorem cells_list (s : St8) : s.cells = wcells s.list := rfl
theorem addS_getD (S R : St8) (k : Nat) (hk : k < 8) : (addS S R).list.getD k 0 = S.list.getD k 0 + R.list.getD k 0 := by
  rcases k with _ | _ | _ | _ | _ | _ | _ | _ | k
  all_goals first | rfl | omega
theorem list_eq_of {xs : List UInt32} {S : St8} (hl : xs.length = 8) (h : ∀ j, j < 8 → xs[j]? = some (S.list.getD j 0)) : xs = S.list := by
  apply List.ext_getElem?
  intro j
  by_cases hj : j < 8
  · rw [h j hj]
    rcases j with _ | _ | _ | _ | _ | _ | _ | _ | j
    all_goals first | rfl | omega
  · rw [List.getElem?_eq_none (by omega), List.getElem?_eq_none (by show 8 ≤ j; omega)]
theorem list_getD {S : St8} {xs : List UInt32} {k : Nat} (h : xs[k]? = S.list[k]?) (hk : k < xs.length) : xs[k] = S.list.getD k 0 := by
  rw [List.getElem?_eq_getElem hk] at h
  simp [List.getD, ← h]
theorem wcells_size (xs : List UInt32) : (wcells xs).size = xs.length := by simp [wcells]
theorem wcells_one (xs : List UInt32) : ∀ v ∈ (wcells xs).toList, v.oneCell' = true := by
  intro v hv
  simp [wcells] at hv
  obtain ⟨x, _, rfl⟩ := hv
  rfl
end Go.Proofs.YtbojcphcjggccaaDoor.Sha
