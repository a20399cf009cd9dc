/-
  The enumeration of trees, the program's and the model's, as plain functions.
-/
import Derived.Test.YtnnihdkhblbdgaaTree
namespace Go.Proofs.Ytnnihdkhblbdgaa.Tr
set_option maxRecDepth 100000
def lastF (t : List Int) : Nat → Nat
  | 0 => 0
  | k+1 => if t.getD (k + 1) 0 = 1 then lastF t k else k + 1
def parF (t : List Int) (x : Int) : Nat → Nat
  | 0 => 0
  | k+1 => if x ≤ t.getD (k + 1) 0 then parF t x k else k + 1
/-- the places i .. i + f - 1 anew, each as the one d before it -/
def cpyF (d : Nat) : Nat → Nat → List Int → List Int
  | 0, _, t => t
  | f+1, i, t => cpyF d f (i + 1) (t.set i (t.getD (i - d) 0))
def lowerL (t : List Int) : Option (List Int) :=
  let l := lastF t (t.length - 1)
  if l = 0 then none else
    let p := parF t (t.getD l 0) (l - 1)
    some (cpyF (l - p) (t.length - l) l t)
def treesF : Nat → List Int → List (List Int)
  | 0, _ => []
  | f+1, t => t :: match lowerL t with
    | none => []
    | some u => treesF f u
def treesL (n : Nat) : List (List Int) := treesF 116 ((List.range n).map fun k : Nat => (k : Int))
def growF : Nat → List Int → List (List Int) → List (List Int)
  | 0, t, out => if can t = t then out ++ [t] else out
  | f+1, t, out => (List.range (t.getD (t.length - 1) 0 + 1).toNat).foldl (fun (o : List (List Int)) (k : Nat) => growF f (t ++ [t.getD (t.length - 1) 0 + 1 - (k : Int)]) o) out
def growL (n : Nat) : List (List Int) := growF (n - 1) [0] []
theorem grow_eq : (List.range 8).all (fun n => growL (n + 1) == treesL (n + 1)) = true := by decide +kernel
def allL : List (List Int) := (List.range 8).flatMap fun n => treesL (n + 1)
theorem allL_len : allL.length = 200 := by decide +kernel
end Go.Proofs.Ytnnihdkhblbdgaa.Tr
