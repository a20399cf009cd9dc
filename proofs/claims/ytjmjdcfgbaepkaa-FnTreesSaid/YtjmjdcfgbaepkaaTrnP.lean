/-
  For the law FnTrees, plain: a tree is made of its branches, has its index and its text, and its numbers' product: gone through.
-/
import Derived.Test.YtjmjdcfgbaepkaaReadP
import Derived.Test.YtjmjdcfgbaepkaaTreeC8
import Derived.Test.YtjmjdcfgbaepkaaTreeF
namespace Go.Proofs.Ytjmjdcfgbaepkaa.Tr
set_option maxRecDepth 100000

def facP : Nat → Int
  | 0 => 1
  | k+1 => facP k * ((k : Int) + 1)
def okP (f : List (List Int)) (k : Nat) : Bool := isTr (f.getD k []) && (decide (k = 0) || !beforeL (f.getD k []) (f.getD (k - 1) []))
def forP (f : List (List Int)) : Bool := (List.range f.length).all (okP f) && decide (total' f ≤ 8)
def labP (s : List Int) : Int := ((facP s.length).tdiv (syM s)).tdiv (denM s)
def rng9 (z : Int) : Bool := decide (0 ≤ z ∧ z ≤ 1000000)
theorem rng9_iff {z : Int} : rng9 z = true ↔ 0 ≤ z ∧ z ≤ 1000000 := by simp [rng9]
def chkTn (s : List Int) : Bool := forP (branL s) && decide ((branL s).length ≤ 8) && decide (total' (branL s) + 1 = s.length) && decide (can (up (branL s)) = can s) && decide (rdL [] 0 (txt s) = ([can s], true)) &&
  decide (0 ≤ idxL (can s) allL 0 ∧ idxL (can s) allL 0 ≤ 199) && decide (allL[(idxL (can s) allL 0).toNat]? = some (can s)) &&
  rng9 (syM s) && rng9 (denM s) && rng9 (labP s) && rng9 (labP s * syM s) && decide (0 < labP s) && decide (labP s * syM s * denM s = facP s.length)
theorem chkTn_0 : ((allLv.drop 0).take 66).all chkTn = true := by decide +kernel
theorem chkTn_1 : ((allLv.drop 66).take 65).all chkTn = true := by decide +kernel
theorem chkTn_2 : ((allLv.drop 131).take 66).all chkTn = true := by decide +kernel
theorem chkTn_3 : ((allLv.drop 197).take 72).all chkTn = true := by decide +kernel
theorem chkTn_4 : ((allLv.drop 269).take 72).all chkTn = true := by decide +kernel
theorem chkTn_5 : ((allLv.drop 341).take 72).all chkTn = true := by decide +kernel
theorem chkTn_6 : ((allLv.drop 413).take 72).all chkTn = true := by decide +kernel
theorem chkTn_7 : ((allLv.drop 485).take 71).all chkTn = true := by decide +kernel
theorem chkTn_8 : ((allLv.drop 556).take 70).all chkTn = true := by decide +kernel
theorem all_dropTn {p : List Int → Bool} {l : List (List Int)} {a k b : Nat} (h1 : ((l.drop a).take k).all p = true) (h2 : (l.drop b).all p = true) (e : b = a + k) : (l.drop a).all p = true := by
  subst e
  rw [← List.take_append_drop k (l.drop a), List.all_append, h1, List.drop_drop, h2]; rfl
theorem drop_allTn (p : List Int → Bool) : (allLv.drop 626).all p = true := by
  rw [List.drop_of_length_le (by decide +kernel)]; rfl
theorem chkTn_all : allLv.all chkTn = true := (all_dropTn (a := 0) (k := 66) (b := 66) chkTn_0 (all_dropTn (a := 66) (k := 65) (b := 131) chkTn_1 (all_dropTn (a := 131) (k := 66) (b := 197) chkTn_2 (all_dropTn (a := 197) (k := 72) (b := 269) chkTn_3 (all_dropTn (a := 269) (k := 72) (b := 341) chkTn_4 (all_dropTn (a := 341) (k := 72) (b := 413) chkTn_5 (all_dropTn (a := 413) (k := 72) (b := 485) chkTn_6 (all_dropTn (a := 485) (k := 71) (b := 556) chkTn_7 (all_dropTn (a := 556) (k := 70) (b := 626) chkTn_8 (drop_allTn chkTn) rfl) rfl) rfl) rfl) rfl) rfl) rfl) rfl) rfl)
end Go.Proofs.Ytjmjdcfgbaepkaa.Tr
