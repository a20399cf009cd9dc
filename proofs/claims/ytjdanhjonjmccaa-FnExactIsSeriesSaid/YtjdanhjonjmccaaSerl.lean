/-
  Lists of numbers as series, and what the operations on them are to answer.
-/
import Derived.Test.YtjdanhjonjmccaaBase
import Derived.Test.YtjdanhjonjmccaaSer
namespace Go.Proofs.Ytjdanhjonjmccaa
open Go.RowKit Fld Ser
set_option linter.unusedVariables false
set_option linter.unusedSimpArgs false

/-- the coefficients of a list -/
def co (xs : List Int) : Nat → Int := fun k => xs.getD k 0
/-- the first n coefficients, as numbers of the field -/
def cl (n : Nat) (f : Nat → Int) : List Int := (List.range n).map fun k => f k % 10007
theorem cl_length (n : Nat) (f : Nat → Int) : (cl n f).length = n := by simp [cl]
theorem cl_at (f : Nat → Int) {n k : Nat} (h : k < n) : (cl n f)[k]? = some (f k % 10007) := by
  unfold cl; rw [List.getElem?_map, List.getElem?_range h]; rfl
theorem cl_num (n : Nat) (f : Nat → Int) : allNum (cl n f) = true := by
  rw [allNum_iff]
  intro x hx
  unfold cl at hx
  rw [List.mem_map] at hx
  obtain ⟨k, _, rfl⟩ := hx
  omega
theorem co_at {xs : List Int} {k : Nat} {x : Int} (h : xs[k]? = some x) : co xs k = x := by
  unfold co; rw [List.getD_eq_getElem?_getD, h]; rfl
theorem co_cl (f : Nat → Int) {n k : Nat} (h : k < n) : co (cl n f) k = f k % 10007 := co_at (cl_at f h)
theorem co_cg (n : Nat) (f : Nat → Int) : Cg n (co (cl n f)) f := fun k hk => by rw [co_cl f hk]; exact Eqm.mod _
theorem cl_cg {n : Nat} {f g : Nat → Int} (h : Cg n f g) : cl n f = cl n g := by
  unfold cl
  exact List.map_congr_left (fun k hk => (h k (List.mem_range.1 hk)))
theorem cl_co {xs : List Int} {n : Nat} (hl : xs.length = n) (h : allNum xs = true) : cl n (co xs) = xs := by
  apply List.ext_getElem?
  intro k
  rcases Nat.lt_or_ge k n with g | g
  · obtain ⟨x, hx⟩ := at_lt (show k < xs.length by omega)
    have hn := allNum_iff.1 h x (List.mem_of_getElem? hx)
    rw [cl_at _ g, hx, co_at hx, Int.emod_eq_of_lt hn.1 hn.2]
  · rw [List.getElem?_eq_none (by rw [cl_length]; exact g), List.getElem?_eq_none (by omega)]
theorem co_num {xs : List Int} (h : allNum xs = true) (k : Nat) : 0 ≤ co xs k ∧ co xs k < 10007 := by
  rcases Nat.lt_or_ge k xs.length with g | g
  · obtain ⟨x, hx⟩ := at_lt g
    rw [co_at hx]; exact allNum_iff.1 h x (List.mem_of_getElem? hx)
  · unfold co; rw [List.getD_eq_getElem?_getD, List.getElem?_eq_none g]; exact ⟨by decide, by decide⟩
theorem co_out {xs : List Int} {k : Nat} (h : xs.length ≤ k) : co xs k = 0 := by
  unfold co; rw [List.getD_eq_getElem?_getD, List.getElem?_eq_none h]; rfl

/-- is a list a series -/
def isSer (xs : List Int) : Bool := decide (1 ≤ xs.length ∧ xs.length ≤ 16) && allNum xs
theorem isSer_iff {xs : List Int} : isSer xs = true ↔ 1 ≤ xs.length ∧ xs.length ≤ 16 ∧ allNum xs = true := by simp [isSer, and_assoc]
theorem isSer_len {xs : List Int} (h : xs.length < 1 ∨ 16 < xs.length) : isSer xs = false := by
  unfold isSer; rw [decide_eq_false (by omega)]; rfl
theorem isSer_num {xs : List Int} (h0 : 1 ≤ xs.length) (h1 : xs.length ≤ 16) : isSer xs = allNum xs := by
  unfold isSer; rw [decide_eq_true ⟨h0, h1⟩]; rfl
/-- are two lists series of one length -/
def areSer (xs ys : List Int) : Bool := isSer xs && (isSer ys && decide (xs.length = ys.length))
theorem areSer_iff {xs ys : List Int} : areSer xs ys = true ↔ isSer xs = true ∧ isSer ys = true ∧ xs.length = ys.length := by simp [areSer]
def serCode (xs ys : List Int) : Int := if areSer xs ys = true then 0 else 1

def addSerA (a b : List Int) : List Int × Int := if areSer a b = true then (cl a.length (ad (co a) (co b)), 0) else ([], 1)
def mulSerA (a b : List Int) : List Int × Int := if areSer a b = true then (cl a.length (cv (co a) (co b)), 0) else ([], 1)
end Go.Proofs.Ytjdanhjonjmccaa
