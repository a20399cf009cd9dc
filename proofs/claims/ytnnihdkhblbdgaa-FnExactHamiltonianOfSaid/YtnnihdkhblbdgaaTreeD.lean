/-
  More plain functions on level lists and texts: orders, symmetries, densities, texts, the model's and the program's.
-/
import Derived.Test.YtnnihdkhblbdgaaTree
namespace Go.Proofs.Ytnnihdkhblbdgaa.Tr
set_option maxRecDepth 100000

/-! ## more of the model's -/
def beforeL (s t : List Int) : Bool := if s.length ≠ t.length then decide (s.length < t.length) else lessL t s
def insB (p : List Int) : List (List Int) → List (List Int)
  | [] => [p]
  | s :: r => if beforeL p s then p :: s :: r else s :: insB p r
def sortL (l : List (List Int)) : List (List Int) := l.foldl (fun o p => insB p o) []
def branL (t : List Int) : List (List Int) := sortL (partsL (can t))
def isTr (t : List Int) : Bool := isLv t && decide (can t = t)
def total' (f : List (List Int)) : Nat := (f.map List.length).sum
def symL : Nat → List Int → Int
  | 0, _ => 1
  | d+1, t => ((List.range (branL t).length).foldl (fun (s : Int × Int) k =>
      let run := if k = 0 ∨ (branL t).getD k [] ≠ (branL t).getD (k - 1) [] then 1 else s.2 + 1
      (s.1 * run * symL d ((branL t).getD k []), run)) (1, 0)).1
def denL : Nat → List Int → Int
  | 0, _ => 1
  | d+1, t => (partsL t).foldl (fun o p => o * denL d p) (t.length : Int)
def factL (n : Nat) : Int := ((List.range n).foldl (fun (o : Nat) k => o * (k + 1)) 1 : Nat)
def labL (t : List Int) : Int := (factL t.length / symL 8 t) / denL 8 t
def textL : Nat → List Int → List UInt8
  | 0, _ => []
  | d+1, t => wrap ((partsL t).map (textL d))
def leavesL (t : List Int) : Nat := ((List.range t.length).filter fun i => decide (i + 1 = t.length) || decide (t.getD (i + 1) 0 ≤ t.getD i 0)).length
def maxL (t : List Int) : Int := t.foldl max 0
/-! ## more of the program's -/
def trF : List UInt8 → Nat → List (List UInt8) → List UInt8 → List (List UInt8) × Bool
  | _, o, acc, [] => (acc, o == 0)
  | cur, o, acc, c :: r =>
    if c = 91 then trF (cur ++ [c]) (o + 1) acc r
    else if c = 93 then (if o = 0 then ([], false) else if o = 1 then trF [] 0 (acc ++ [cur ++ [c]]) r else trF (cur ++ [c]) (o - 1) acc r)
    else ([], false)
def inner (x : List UInt8) : List UInt8 := (x.drop 1).take (x.length - 2)
def brT (x : List UInt8) : List (List UInt8) := (trF [] 0 [] (inner x)).1
def symK (f : List UInt8 → Int) (bs : List (List UInt8)) : Nat → Int × Int
  | 0 => (1, 0)
  | k+1 => let s := symK f bs k
    let o := (if 0 < k ∧ bs.getD k [] ≠ bs.getD (k - 1) [] then 0 else s.2) + 1
    (s.1 * (o * f (bs.getD k [])), o)
def symF : Nat → List UInt8 → Int
  | 0, _ => 1
  | d+1, x => (symK (symF d) (brT x) (brT x).length).1
def denK (f : List UInt8 → Int) (bs : List (List UInt8)) (a : Int) : Nat → Int
  | 0 => a
  | k+1 => denK f bs a k * f (bs.getD k [])
def denF : Nat → List UInt8 → Int
  | 0, _ => 1
  | d+1, x => denK (denF d) (brT x) ((x.length / 2 : Nat) : Int) (brT x).length
def ltS (x y : List UInt8) : Bool := !leS y x
def cmpT (x y : List UInt8) : Int := if x.length / 2 < y.length / 2 then -1 else if y.length / 2 < x.length / 2 then 1 else if ltS x y then -1 else if ltS y x then 1 else 0
def insT (p : List UInt8) : List (List UInt8) → List (List UInt8)
  | [] => [p]
  | s :: r => if cmpT p s ≤ 0 then p :: s :: r else s :: insT p r
def sortT : List (List UInt8) → List (List UInt8)
  | [] => []
  | p :: r => insT p (sortT r)
end Go.Proofs.Ytnnihdkhblbdgaa.Tr
