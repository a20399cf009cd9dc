/-
  Grafting, cutting and rerooting, as plain functions on texts (the program's) and on lists (the model's); all gone through.
-/
import Derived.Test.YtnnihdkhblbdgaaTreeE
import Derived.Test.YtnnihdkhblbdgaaTreeC8
namespace Go.Proofs.Ytnnihdkhblbdgaa.Tr
set_option maxRecDepth 100000

/-! ## the program's -/
/-- the branch that has the place, and the place in it -/
def pick : List (List UInt8) → Nat → Nat × Nat
  | [], p => (0, p)
  | b :: r, p => if p < b.length / 2 then (0, p) else ((pick r (p - b.length / 2)).1 + 1, (pick r (p - b.length / 2)).2)
def bAt (x : List UInt8) (n : Nat) : List UInt8 := (brT x).getD (pick (brT x) n).1 []
def pAt (x : List UInt8) (n : Nat) : Nat := (pick (brT x) n).2
def oAt (x : List UInt8) (n : Nat) : List (List UInt8) := (brT x).eraseIdx (pick (brT x) n).1
def rootT (l : List (List UInt8)) : List UInt8 := wrap (sortS l)
def grfF : Nat → List UInt8 → Nat → List UInt8 → List UInt8
  | 0, _, _, _ => []
  | _+1, x, 0, v => rootT (brT x ++ [v])
  | d+1, x, n+1, v => rootT (oAt x n ++ [grfF d (bAt x n) (pAt x n) v])
def cutF : Nat → List UInt8 → Nat → List UInt8 × List UInt8
  | 0, _, _ => ([], [])
  | _+1, _, 0 => ([], [])
  | d+1, x, n+1 => if pAt x n = 0 then (rootT (oAt x n), bAt x n) else (rootT (oAt x n ++ [(cutF d (bAt x n) (pAt x n)).1]), (cutF d (bAt x n) (pAt x n)).2)
def rerF : Nat → List UInt8 → Nat → List (List UInt8) → List UInt8
  | 0, _, _, _ => []
  | _+1, x, 0, bs => rootT (brT x ++ bs)
  | d+1, x, n+1, bs => rerF d (bAt x n) (pAt x n) [rootT (oAt x n ++ bs)]
/-! ## the model's -/
def endL (t : List Int) (k : Nat) : Nat := k + 1 + ((t.drop (k + 1)).takeWhile (fun y => decide (t.getD k 0 < y))).length
def gl (u : List Int) (k : Nat) (v : List Int) : List Int := u.take (endL u k) ++ (v.map (u.getD k 0 + 1 + ·) ++ u.drop (endL u k))
def trunkL (t : List Int) (k : Nat) : List Int := t.take k ++ t.drop (endL t k)
def branchL (t : List Int) (k : Nat) : List Int := ((t.drop k).take (endL t k - k)).map (· - t.getD k 0)
def parL (t : List Int) (x : Int) : Nat → Nat
  | 0 => 0
  | k+1 => if t.getD k 0 = x then k else parL t x k
def turnF : Nat → List Int → Nat → List Int
  | 0, _, _ => []
  | _+1, t, 0 => can t
  | d+1, t, k+1 => can (gl (branchL t (k + 1)) 0 (turnF d (trunkL t (k + 1)) (parL t (t.getD (k + 1) 0 - 1) (k + 1))))
/-! ## what a branch is found by -/
def chkK (x : List UInt8) : Bool := (List.range (x.length / 2 - 1)).all fun n => decide ((pick (brT x) n).1 < (brT x).length) && isTx (bAt x n) && decide (pAt x n < (bAt x n).length / 2) && decide ((bAt x n).length < x.length) && (oAt x n).all (fun b => isTx b && decide (b.length ≤ 16)) && decide ((oAt x n).length ≤ 7)
theorem chkK_all : allT.all chkK = true := by decide +kernel
theorem pick_parts {x : List UInt8} (h : isTx x = true) {n : Nat} (hn : n + 1 < x.length / 2) : (pick (brT x) n).1 < (brT x).length ∧ isTx (bAt x n) = true ∧ pAt x n < (bAt x n).length / 2 ∧ (bAt x n).length < x.length ∧ (∀ b ∈ oAt x n, isTx b = true ∧ b.length ≤ 16) ∧ (oAt x n).length ≤ 7 := by
  have h1 := tx_of chkK_all h
  unfold chkK at h1
  rw [List.all_eq_true] at h1
  have h2 := h1 n (by rw [List.mem_range]; omega)
  simp only [Bool.and_eq_true, decide_eq_true_eq, List.all_eq_true] at h2
  exact ⟨h2.1.1.1.1.1, h2.1.1.1.1.2, h2.1.1.1.2, h2.1.1.2, h2.1.2, h2.2⟩
/-- the lists that may stand beside one of so many nodes -/
def upTo (k : Nat) (p : List Int → Bool) : Bool := (List.range k).all fun n => (gen n).all p
theorem upTo_of {k : Nat} {p : List Int → Bool} (h : upTo k p = true) {v : List Int} (hv : isLv v = true) (hl : v.length ≤ k) : p v = true := by
  have hv' := isLv_iff.1 hv
  unfold upTo at h
  rw [List.all_eq_true] at h
  have h0 := hv'.1
  have h1 := h (v.length - 1) (by rw [List.mem_range]; omega)
  rw [List.all_eq_true] at h1
  exact h1 v (mem_gen _ v (by omega) hv'.2.2.1 hv'.2.2.2)
theorem gl_length {u v : List Int} {k : Nat} (hk : endL u k ≤ u.length) : (gl u k v).length = u.length + v.length := by
  unfold gl
  simp only [List.length_append, List.length_take, List.length_map, List.length_drop]
  omega
theorem endL_le {t : List Int} {k : Nat} (hk : k < t.length) : k + 1 ≤ endL t k ∧ endL t k ≤ t.length := by
  unfold endL
  have h := (List.takeWhile_sublist (fun y => decide (t.getD k 0 < y)) (l := t.drop (k + 1))).length_le
  rw [List.length_drop] at h
  omega
end Go.Proofs.Ytnnihdkhblbdgaa.Tr
