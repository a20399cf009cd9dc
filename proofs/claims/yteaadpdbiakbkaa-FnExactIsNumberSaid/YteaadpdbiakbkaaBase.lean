/-
  Plain lemmas and words that every proof of this seat leans on: endings, slices that read as lists, arguments opened.
-/
import Derived.Test.YteaadpdbiakbkaaRows
import Derived.WalkKit
import Derived.ProofKit
import Derived.OpenShut
import Derived.ShutString
import Derived.ChangeOld
import Derived.Below
import Derived.Calls
import Derived.Lib.Hide
namespace Go.Proofs.Yteaadpdbiakbkaa
open Go.ChangeShapes Go.WideShapes Go.ChangeAt Go.RowKit

theorem ret_i64 {a b : Int} (h : a = b) : Ending.returned (.int .i64 a) = .returned (.int .i64 b) := by rw [h]
theorem ret_bool {a b : Bool} (h : a = b) : Ending.returned (.bool a) = .returned (.bool b) := by rw [h]
theorem ret_two {a b c d : Int} (h : a = b) (g : c = d) : Ending.returned (.tuple #[.int .i64 a, .int .i64 c]) = .returned (.tuple #[.int .i64 b, .int .i64 d]) := by rw [h, g]

/-- an int64 that came in lies in its range -/
theorem i64_of_wf {a : Int} (h : (Lit.int .i64 a).wf = true) : -9223372036854775808 ≤ a ∧ a ≤ 9223372036854775807 := by
  simpa [Lit.wf, IntKind.min, IntKind.max, IntKind.signed, IntKind.bits] using h

/-- a slice of integers that came in: nil, or a row of its cells -/
def IsRow (k : IntKind) (w : World) (a : Option Addr) (len cap : Nat) (zs : List Int) : Prop :=
  (a = none ∧ len = 0 ∧ cap = 0 ∧ zs = []) ∨
  ∃ b off, a = some ⟨b, off, none⟩ ∧ len ≤ cap ∧ cap ≤ maxLen ∧ zs.length = cap ∧ b < w.heap.size ∧ (∀ i, i < cap → w.cell? ⟨b, off + i, none⟩ = some (.int k (zs.getD i 0))) ∧ ∀ n ∈ zs, (Lit.int k n).wf = true

theorem lt_of_cell {w : World} {b o : Nat} {v : Value} (h : w.cell? ⟨b, o, none⟩ = some v) : b < w.heap.size := by
  rcases Nat.lt_or_ge b w.heap.size with g | g
  · exact g
  · unfold World.cell? at h
    simp [Array.getElem?_eq_none g] at h

/-! rows: a slice whose cells hold the values vs, in blocks below B -/
def Row (w : World) (B : Nat) (A : Option Addr) (vs : List Value) : Prop :=
  ∀ k v, vs[k]? = some v → ∃ b o, A = some ⟨b, o, none⟩ ∧ b < B ∧ w.cell? ⟨b, o + k, none⟩ = some v
theorem Row.nil (w : World) (B : Nat) (A : Option Addr) : Row w B A [] := fun k v h => by simp at h
theorem Row.keep {w w' : World} {B : Nat} {A : Option Addr} {vs : List Value} (h : Row w B A vs) (hk : ∀ b o, b < B → w'.cell? ⟨b, o, none⟩ = w.cell? ⟨b, o, none⟩) : Row w' B A vs :=
  fun k v hv => by
    obtain ⟨b, o, e, hb, hc⟩ := h k v hv
    exact ⟨b, o, e, hb, (hk b _ hb).trans hc⟩
theorem Row.more {w : World} {B B' : Nat} {A : Option Addr} {vs : List Value} (h : Row w B A vs) (hB : B ≤ B') : Row w B' A vs :=
  fun k v hv => by
    obtain ⟨b, o, e, hb, hc⟩ := h k v hv
    exact ⟨b, o, e, by omega, hc⟩
theorem Row.below {w w' : World} {B B' : Nat} {A : Option Addr} {vs : List Value} (h : Row w B A vs) (hb : Below B' w w') (hB : B ≤ B') : Row w' B A vs :=
  h.keep fun b o hlt => hb.cell (p := ⟨b, o, none⟩) (by show b < B'; omega)
theorem Row.alloc {w : World} {B : Nat} {A : Option Addr} {vs : List Value} (h : Row w B A vs) (hB : B ≤ w.heap.size) (x : Obj) : Row (w.alloc x) B A vs :=
  h.below ((Below.refl w.heap.size w).alloc (Nat.le_refl _) x) hB
theorem Row.take {w : World} {B : Nat} {A : Option Addr} {vs us : List Value} (h : Row w B A (us ++ vs)) : Row w B A us :=
  fun k v hv => h k v (by
    have hk : k < us.length := by
      rcases Nat.lt_or_ge k us.length with g | g
      · exact g
      · rw [List.getElem?_eq_none g] at hv; cases hv
    rw [List.getElem?_append_left hk]; exact hv)
/-- a row that was just built -/
theorem Row.new (w : World) (T : TypeId) (vs : List Value) : Row (w.alloc (.cells vs.toArray T)) (w.heap.size + 1) (some ⟨w.heap.size, 0, none⟩) vs :=
  fun k v hv => ⟨w.heap.size, 0, rfl, by omega, by
    rw [World.cell?_alloc_at (hn := by simp)]
    simpa using hv⟩
def ints (xs : List Int) : List Value := xs.map fun x => .int .i64 x
theorem ints_at {xs : List Int} {k : Nat} {x : Int} (h : xs[k]? = some x) : (ints xs)[k]? = some (.int .i64 x) := by
  unfold ints; rw [List.getElem?_map, h]; rfl

/-! numbers of the field, as the tests see them -/
def isNum (a : Int) : Bool := decide (0 ≤ a ∧ a < 10007)
theorem isNum_iff {a : Int} : isNum a = true ↔ 0 ≤ a ∧ a < 10007 := by simp [isNum]
theorem isNum_no {a : Int} : isNum a = false ↔ a < 0 ∨ 10007 ≤ a := by simp [isNum]; omega
def allNum (xs : List Int) : Bool := xs.all isNum
theorem allNum_iff {xs : List Int} : allNum xs = true ↔ ∀ x ∈ xs, 0 ≤ x ∧ x < 10007 := by simp [allNum, List.all_eq_true, isNum_iff]
theorem allNum_take {xs : List Int} {k : Nat} {x : Int} (h : xs[k]? = some x) (ht : allNum (xs.take k) = true) (hx : isNum x = true) : allNum (xs.take (k + 1)) = true := by
  rw [List.take_add_one, h]
  unfold allNum at *
  simp [ht, hx]
theorem allNum_no {xs : List Int} {k : Nat} {x : Int} (h : xs[k]? = some x) (hx : isNum x = false) : allNum xs = false := by
  unfold allNum
  rw [List.all_eq_false]
  exact ⟨x, List.mem_of_getElem? h, by simp [hx]⟩
theorem at_lt {α : Type} {xs : List α} {k : Nat} (h : k < xs.length) : ∃ x, xs[k]? = some x := ⟨xs[k], List.getElem?_eq_getElem h⟩

def isIn (n l h : Int) : Bool := decide (l ≤ n ∧ n ≤ h)
theorem isIn_yes {n l h : Int} (h0 : l ≤ n) (h1 : n ≤ h) : isIn n l h = true := by simp [isIn, h0, h1]
theorem isIn_no {n l h : Int} (h0 : n < l ∨ h < n) : isIn n l h = false := by simp [isIn]; omega
theorem isIn_num (a : Int) : isIn a 0 10006 = isNum a := by
  unfold isIn isNum; congr 1; exact propext ⟨fun h => ⟨h.1, by omega⟩, fun h => ⟨h.1, by omega⟩⟩
/-- the code of two numbers -/
def twoCode (a b : Int) : Int := if allNum [a, b] = true then 0 else 2
theorem twoCode_yes {a b : Int} (h : allNum [a, b] = true) : twoCode a b = 0 := if_pos h
theorem twoCode_no {a b : Int} (h : allNum [a, b] = false) : twoCode a b = 2 := if_neg (by rw [h]; simp)
theorem allNum_two (a b : Int) : allNum [a, b] = (isNum a && isNum b) := by simp [allNum]

/-- a result beside a test: 0 where the test fails -/
def pick (c : Bool) (r : Int) : Int := if c = true then r else 0
theorem pick_yes {c : Bool} (h : c = true) (r : Int) : pick c r = r := if_pos h
theorem pick_no {c : Bool} (h : c = false) (r : Int) : pick c r = 0 := if_neg (by rw [h]; simp)
theorem ret_two_yes {c : Bool} {r x y k : Int} (h : c = true) (hx : x = r) (hk : y = k) : Ending.returned (.tuple #[.int .i64 x, .int .i64 y]) = .returned (.tuple #[.int .i64 (pick c r), .int .i64 k]) := by rw [pick_yes h, hx, hk]
theorem ret_two_no {c : Bool} {r x y k : Int} (h : c = false) (hx : x = 0) (hk : y = k) : Ending.returned (.tuple #[.int .i64 x, .int .i64 y]) = .returned (.tuple #[.int .i64 (pick c r), .int .i64 k]) := by rw [pick_no h, hx, hk]
theorem ok_two_num {a b : Int} (h : allNum [a, b] = true) : 0 ≤ a ∧ a < 10007 ∧ 0 ≤ b ∧ b < 10007 := by
  rw [allNum_iff] at h
  have h1 := h a (by simp)
  have h2 := h b (by simp)
  omega
end Go.Proofs.Yteaadpdbiakbkaa
